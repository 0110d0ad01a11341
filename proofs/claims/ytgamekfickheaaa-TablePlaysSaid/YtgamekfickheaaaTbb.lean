/- Things in slots (layer 40): what is in a slot, slots freed, how many are full. -/
import Derived.Test.YtgamekfickheaaaTba
namespace Go.Proofs.Ytgamekfickheaaa
open Go.RowKit
set_option linter.unusedVariables false
set_option linter.unusedSimpArgs false

def getP (S : List Slt) (n : Int) : Slt := if 0 ≤ n ∧ n < S.length then S.getD n.toNat (0, false) else (0, false)
def dropS (S : List Slt) (n : Int) : List Slt := if (getP S n).2 = true then S.set n.toNat (0, false) else S
theorem getP_in {S : List Slt} {k : Nat} (h : k < S.length) : getP S (k : Int) = S[k] := by
  unfold getP
  rw [if_pos ⟨by omega, by omega⟩]
  simp [h]
theorem getP_out {S : List Slt} {n : Int} (h : n < 0 ∨ S.length ≤ n) : getP S n = (0, false) := by
  unfold getP
  rw [if_neg (by omega)]
theorem tget_any (b g : Nat) (S : List Slt) (n : Int) (w : World) (h : TB b g S w) (hl : S.length ≤ 1000) :
    Calls Try.prog 33 #[.pointer (some ⟨b, 0, none⟩), .int .i64 n] w fun e w' => e = .returned (.tuple #[.int .i64 (getP S n).1, .bool (getP S n).2]) ∧ Below w.heap.size w w' := by
  have H := Kp.mk h
  by_cases hn : 0 ≤ n ∧ n < S.length
  · obtain ⟨k, rfl⟩ : ∃ k : Nat, n = (k : Int) := ⟨n.toNat, by omega⟩
    have hk : k < S.length := by omega
    have HG := Kp.mk (getP_in hk)
    obtain ⟨c1, c2⟩ := h.cell hk
    have c0 := blk_cell (i := 0) h.hb rfl
    have q0 : (0 : Int) ≤ (k : Int) := by omega
    have q1 : (k : Int) < (S.length : Int) := by omega
    rw [HG.out]
    clear h hn
    generalize S[k] = p at *
    obtain ⟨y, o⟩ := p
    dsimp only at c1 c2 ⊢
    go_enter Try.func33, Try.ntmps33
    go_wp2_with fail
    refine (tall_any b g S _ H.out).mono ?_
    rintro e w1 ⟨rfl, rfl⟩
    go_wp2_with fail
    all_goals (try go_quiet (fail))
    all_goals go_wp2_with fail
    go_ret2
    exact ⟨rfl, gdrewN _ _⟩
  · have HG := Kp.mk (getP_out (S := S) (n := n) (by omega))
    rw [HG.out]
    clear h
    go_enter Try.func33, Try.ntmps33
    go_wp2_with fail
    refine (tall_any b g S _ H.out).mono ?_
    rintro e w1 ⟨rfl, rfl⟩
    by_cases h0 : n < 0
    · go_wp2_with fail
      go_ret2
      exact ⟨rfl, Below.refl _ _⟩
    · have q1 : (S.length : Int) ≤ n := by omega
      have q2 : 0 ≤ n := by omega
      go_wp2_with fail
      go_ret2
      exact ⟨rfl, Below.refl _ _⟩
def DropT (b g : Nat) (S : List Slt) (n : Int) (w : World) (e : Ending) (w' : World) : Prop :=
  e = .returned (.bool (getP S n).2) ∧ TB b g (dropS S n) w' ∧ Kpt (fun k => k ≠ g) w w'
theorem tdrop_any (b g : Nat) (S : List Slt) (n : Int) (w : World) (h : TB b g S w) (hl : S.length ≤ 1000) :
    Calls Try.prog 36 #[.pointer (some ⟨b, 0, none⟩), .int .i64 n] w (DropT b g S n w) := by
  have H := Kp.mk h
  clear h
  cases ho : (getP S n).2
  · have HD := Kp.mk (show dropS S n = S by unfold dropS; rw [ho]; rfl)
    have HO := Kp.mk ho
    go_enter Try.func36, Try.ntmps36
    go_wp2_with fail
    refine (tget_any b g S n _ H.out hl).mono ?_
    rintro e w1 ⟨rfl, hb⟩
    rw [ho]
    have HB := Kp.mk hb
    clear hb
    go_wp2_with fail
    go_ret
    exact ⟨by rw [HO.out]; rfl, by rw [HD.out]; exact H.out.below HB.out, Kpt.of HB.out⟩
  · have hn : 0 ≤ n ∧ n < S.length := Decidable.byContradiction fun hn => by rw [getP_out (by omega)] at ho; cases ho
    obtain ⟨k, rfl⟩ : ∃ k : Nat, n = (k : Int) := ⟨n.toNat, by omega⟩
    have hk : k < S.length := by omega
    have HD := Kp.mk (show dropS S (k : Int) = S.set k (0, false) by unfold dropS; rw [ho, if_pos rfl, Int.toNat_natCast])
    have HO := Kp.mk ho
    have q0 : (0 : Int) ≤ (k : Int) := by omega
    have q1 : (k : Int) < (S.length : Int) := by omega
    go_enter Try.func36, Try.ntmps36
    go_wp2_with fail
    refine (tget_any b g S k _ H.out hl).mono ?_
    rintro e w1 ⟨rfl, hb⟩
    rw [ho]
    have HB := Kp.mk hb
    have HT := Kp.mk (H.out.below hb)
    obtain ⟨c1, c2⟩ := HT.out.cell hk
    have f1 := HT.out.free (k * 2)
    have f2 := HT.out.free (k * 2 + 1)
    have c0 := blk_cell (i := 0) HT.out.hb rfl
    clear hb
    go_wp2_with fail
    go_ret
    exact ⟨by rw [HO.out]; rfl, by rw [HD.out]; exact HT.out.set hk (0, false), ((Kpt.of HB.out).setCell _ _ (by simp)).setCell _ _ (by simp)⟩
def lenN (S : List Slt) : Nat := (S.filter (·.2)).length
theorem lenN_take {S : List Slt} {k : Nat} (h : k < S.length) : lenN (S.take (k + 1)) = lenN (S.take k) + (if S[k].2 = true then 1 else 0) := by
  unfold lenN
  rw [List.take_succ_eq_append_getElem h, List.filter_append, List.length_append]
  cases hf : S[k].2 <;> simp [hf]
theorem lenN_le (S : List Slt) : lenN S ≤ S.length := List.length_filter_le _ _
set_option maxRecDepth 100000 in
set_option maxHeartbeats 1000000 in
theorem tlen_any (b g : Nat) (S : List Slt) (w : World) (h : TB b g S w) (hl : S.length ≤ 1000) :
    Calls Try.prog 87 #[.pointer (some ⟨b, 0, none⟩)] w fun e w' => e = .returned (.int .i64 (lenN S)) ∧ Below w.heap.size w w' := by
  have H := Kp.mk h
  clear h
  go_enter Try.func87, Try.ntmps87
  go_wp2_with fail
  refine (tall_any b g S _ H.out).mono ?_
  rintro e w1 ⟨rfl, rfl⟩
  go_wp2_with fail
  go_loopw [3, 9] (fun n i wr => ∃ k : Nat, k ≤ S.length ∧ i = .int .i64 k ∧ n = .int .i64 (lenN (S.take k)) ∧ Below w.heap.size w wr) (fun _ i _ => S.length - (intOf i).toNat)
  case atStart => exact ⟨0, by omega, rfl, rfl, Below.refl _ _⟩
  case round =>
    obtain ⟨k, hk, rfl, rfl, hb⟩ := hrel
    have HB := Kp.mk hb
    have hsz := hb.size
    have hle := lenN_le (S.take k)
    rw [List.length_take] at hle
    clear hb
    by_cases hlt : k < S.length
    · have HT := Kp.mk (H.out.below HB.out)
      obtain ⟨c1, c2⟩ := HT.out.cell hlt
      have q0 : (0 : Int) ≤ (k : Int) := by omega
      have q1 : (k : Int) < (S.length : Int) := by omega
      have HN := Kp.mk (lenN_take hlt)
      have HBA := Kp.mk (HB.out.alloc hsz (.cells #[.int .i64 S[k].1, .bool S[k].2] 132))
      generalize S[k] = p at *
      obtain ⟨y, o⟩ := p
      dsimp only at c1 c2 HN HBA
      generalize hm : lenN (S.take k) = m at *
      cases o
      · have HN2 := Kp.mk (show lenN (S.take (k + 1)) = m by rw [HN.out]; rfl)
        go_wp2_with fail
        go_roundw
        case rel => exact ⟨k + 1, by omega, by go_num, by rw [HN2.out], HBA.out⟩
        case measure => simp [intOf]; omega
      · have HN2 := Kp.mk (show lenN (S.take (k + 1)) = m + 1 by rw [HN.out]; rfl)
        go_wp2_with fail
        go_roundw
        case rel => exact ⟨k + 1, by omega, by go_num, by rw [HN2.out]; go_num, HBA.out⟩
        case measure => simp [intOf]; omega
    · have HK := Kp.mk (show S.take k = S from List.take_of_length_le (by omega))
      rw [HK.out]
      go_wp2_with fail
      go_ret
      exact ⟨rfl, HB.out⟩
end Go.Proofs.Ytgamekfickheaaa
