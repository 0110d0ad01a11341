/- Things in slots (layer 40): the document's Len, Get, Put and Drop (bin/mktbi.py). -/
import Derived.Test.YtgamekfickheaaaTbi
namespace Go.Proofs.Ytgamekfickheaaa
open Go.RowKit
set_option linter.unusedVariables false
set_option linter.unusedSimpArgs false

set_option maxRecDepth 100000 in
set_option maxHeartbeats 1000000 in
theorem rslen_any (v : Value) (S : List Slt) (w : World) (hv : RdW w v S) (hl : S.length ≤ 1000) :
    Calls Try.prog 88 #[v] w fun e w' => e = .returned (.int .i64 (lenN S)) ∧ Below w.heap.size w w' := by
  have HV := Kp.mk hv
  obtain ⟨a, c, rfl⟩ := rdw_form hv
  clear hv
  go_enter Try.func88, Try.ntmps88
  go_wp2_with fail
  go_loopw [3, 4] (fun n i wr => ∃ k : Nat, k ≤ S.length ∧ i = .int .i64 k ∧ n = .int .i64 (lenN (S.take k)) ∧ Below w.heap.size w wr) (fun _ i _ => S.length - (intOf i).toNat)
  case atStart => exact ⟨0, by omega, rfl, rfl, Below.refl _ _⟩
  case round =>
    obtain ⟨k, hk, rfl, rfl, hb⟩ := hrel
    have HB := Kp.mk hb
    have hle := lenN_le (S.take k)
    rw [List.length_take] at hle
    by_cases hlt : k < S.length
    · obtain ⟨g, o, rfl, hgl, d0⟩ := rdw_cells (HV.out.below hb) (by omega)
      obtain ⟨c1, c2⟩ := d0 k hlt
      have q0 : (0 : Int) ≤ (k : Int) := by omega
      have q1 : (k : Int) < (S.length : Int) := by omega
      have HN := Kp.mk (lenN_take hlt)
      clear d0 hb
      generalize S[k] = p at *
      obtain ⟨y, o2⟩ := p
      dsimp only at c1 c2 HN
      generalize hm : lenN (S.take k) = m at *
      cases o2
      · have HN2 := Kp.mk (show lenN (S.take (k + 1)) = m by rw [HN.out]; rfl)
        go_wp2_with fail
        go_roundw
        case rel => exact ⟨k + 1, by omega, by go_num, by rw [HN2.out], HB.out⟩
        case measure => simp [intOf]; omega
      · have HN2 := Kp.mk (show lenN (S.take (k + 1)) = m + 1 by rw [HN.out]; rfl)
        go_wp2_with fail
        go_roundw
        case rel => exact ⟨k + 1, by omega, by go_num, by rw [HN2.out]; go_num, HB.out⟩
        case measure => simp [intOf]; omega
    · have HK := Kp.mk (show S.take k = S from List.take_of_length_le (by omega))
      rw [HK.out]
      clear hb
      go_wp2_with fail
      go_ret
      exact ⟨rfl, HB.out⟩
/-- What the document's Get tells. -/
def rgX (S : List Slt) (n : Int) : Int := if (getP S n).2 = true then (getP S n).1 else 0
set_option maxHeartbeats 1000000 in
theorem rsget_any (v : Value) (S : List Slt) (n : Int) (w : World) (hv : RdW w v S) (hl : S.length ≤ 1000) :
    Calls Try.prog 34 #[v, .int .i64 n] w fun e w' => e = .returned (.tuple #[.int .i64 (rgX S n), .bool (getP S n).2]) ∧ Below w.heap.size w w' := by
  have HV := Kp.mk hv
  have HX := Kp.mk (show rgX S n = if (getP S n).2 = true then (getP S n).1 else 0 from rfl)
  by_cases hn : 0 ≤ n ∧ n < S.length
  · obtain ⟨k, rfl⟩ : ∃ k : Nat, n = (k : Int) := ⟨n.toNat, by omega⟩
    have hk : k < S.length := by omega
    have HG := Kp.mk (getP_in hk)
    obtain ⟨a, c, rfl⟩ := rdw_form hv
    obtain ⟨g, o, rfl, hgl, d0⟩ := rdw_cells hv (by omega)
    obtain ⟨c1, c2⟩ := d0 k hk
    have q0 : (0 : Int) ≤ (k : Int) := by omega
    have q1 : (k : Int) < (S.length : Int) := by omega
    have q2 : ¬ (S.length : Int) ≤ (k : Int) := by omega
    have q3 : ¬ (k : Int) < 0 := by omega
    rw [HG.out] at HX ⊢
    clear hv hn d0
    generalize rgX S (k : Int) = RX at *
    generalize S[k] = p at *
    obtain ⟨y, o2⟩ := p
    dsimp only at c1 c2 HX ⊢
    cases o2
    · go_enter Try.func34, Try.ntmps34
      go_wp2_with fail
      go_ret2
      exact ⟨by rw [HX.out]; rfl, Below.refl _ _⟩
    · go_enter Try.func34, Try.ntmps34
      go_wp2_with fail
      go_ret2
      exact ⟨by rw [HX.out]; rfl, Below.refl _ _⟩
  · have HG := Kp.mk (getP_out (S := S) (n := n) (by omega))
    rw [HG.out] at HX ⊢
    obtain ⟨a, c, rfl⟩ := rdw_form hv
    clear hv
    generalize rgX S n = RX at *
    dsimp only
    by_cases h0 : n < 0
    · go_enter Try.func34, Try.ntmps34
      go_wp2_with fail
      go_ret2
      exact ⟨by rw [HX.out]; rfl, Below.refl _ _⟩
    · have q1 : (S.length : Int) ≤ n := by omega
      go_enter Try.func34, Try.ntmps34
      go_wp2_with fail
      go_ret2
      exact ⟨by rw [HX.out]; rfl, Below.refl _ _⟩
/-- The list that comes back: the one that went in, or a new one. -/
def NewV (v v' : Value) (w : World) : Prop := v' = v ∨ ∀ k, v'.ownBlock = some k → w.heap.size ≤ k
def RsPut (v : Value) (S : List Slt) (x : Int) (w : World) (e : Ending) (w' : World) : Prop :=
  ∃ v', e = .returned (.tuple #[v', .int .i64 (putN S), .bool (putB S)]) ∧ RdW w' v' (putS S x) ∧ NewV v v' w ∧ Below w.heap.size w w'
set_option maxRecDepth 100000 in
set_option maxHeartbeats 2000000 in
theorem rsput_any (v : Value) (S : List Slt) (x : Int) (w : World) (hv : RdW w v S) (hl : S.length ≤ 1000) :
    Calls Try.prog 31 #[v, .int .i64 x] w (RsPut v S x w) := by
  have HV := Kp.mk hv
  obtain ⟨a, c, rfl⟩ := rdw_form hv
  unfold RsPut
  clear hv
  go_enter Try.func31, Try.ntmps31
  go_wp2_with fail
  go_loopw [7] (fun i wr => ∃ k : Nat, k ≤ S.length ∧ i = .int .i64 k ∧ (∀ (j : Nat) (h : j < S.length), j < k → S[j].2 = true) ∧ wr = w) (fun i _ => S.length - (intOf i).toNat)
  case atStart => exact ⟨0, by omega, rfl, fun j _ h => by omega, rfl⟩
  case round =>
    obtain ⟨k, hk, rfl, hh, rfl⟩ := hrel
    have HH := Kp.mk hh
    clear hh
    by_cases hlt : k < S.length
    · obtain ⟨g, o, rfl, hgl, d0⟩ := rdw_cells HV.out (by omega)
      obtain ⟨c1, c2⟩ := d0 k hlt
      have q0 : (0 : Int) ≤ (k : Int) := by omega
      have q1 : (k : Int) < (S.length : Int) := by omega
      have HFR := Kp.mk (fun h => frI_at hlt HH.out h)
      have HNX := Kp.mk (fun (h : S[k].2 = true) => show ∀ (j : Nat) (hj : j < S.length), j < k + 1 → S[j].2 = true from fun j hj hjk => by
        by_cases hjk2 : j = k
        · subst hjk2; exact h
        · exact HH.out j hj (by omega))
      clear d0
      generalize hp : S[k] = p at *
      obtain ⟨y, o2⟩ := p
      dsimp only at c1 c2 HFR HNX
      clear hp
      cases o2
      · have HF := Kp.mk (HFR.out rfl)
        have hBA := (Below.refl wr.heap.size wr).alloc (Nat.le_refl _) (.cells #[] 129)
        have HVA := Kp.mk (HV.out.below hBA)
        have HO := Kp.mk (World.ownsRow_lit (base := wr.heap.size) (e := 129) (size := 2) wr #[] 0 (Nat.le_refl _) (by unfold maxLen; omega) rfl)
        have HBA := Kp.mk hBA
        have hszA : wr.heap.size ≤ (wr.alloc (.cells #[] 129)).heap.size := hBA.size
        have hlen0 : (0 + S.length) * 16 ≤ 140737488355328 := by omega
        have hmx0 : 0 + S.length ≤ maxLen := by unfold maxLen; omega
        clear hBA HFR HNX
        go_wp2_with (at_builtin; refine app_slts rfl _ _ _ _ rfl Try.underlying46 _ Try.infoRs rfl wr.heap.size _ 0 _ rfl HO.out _ rfl S HVA.out hlen0 hmx0 hszA ?_; intro v1 w1 h1 h2; rw [Nat.zero_add] at h1; have HB1 := Kp.mk (HBA.out.grown h2 hszA fun k hk => (HO.out.lt k hk).1); have HO1 := Kp.mk h1; clear h1 h2; obtain ⟨a1, cc1, rfl⟩ := own_lenH HO1.out; obtain ⟨g1, rfl⟩ := (own_formT HO1.out).resolve_left (fun h => by have := h.2; omega); have f1 := own_freeT HO1.out (k * 2); have f2 := own_freeT HO1.out (k * 2 + 1); obtain ⟨g9, o9, e9, hg9, d9⟩ := rdw_cells (rdw_own HO1.out) (by omega); cases e9; obtain ⟨x1, x2⟩ := d9 k hlt; rw [Nat.zero_add] at x1 x2; clear d9)
        have HS1 := Kp.mk (own_storeT (k := k * 2 + 1) (u := .bool true) (own_storeT (k := k * 2) (u := .int .i64 x) HO1.out))
        have HBL := Kp.mk (show Below wr.heap.size wr ((w1.setCell ⟨g1, k * 2, none⟩ (.int .i64 x)).setCell ⟨g1, k * 2 + 1, none⟩ (.bool true)) from (HB1.out.setCell (p := ⟨g1, k * 2, none⟩) (HO1.out.lt g1 rfl).1 _).setCell (p := ⟨g1, k * 2 + 1, none⟩) (HO1.out.lt g1 rfl).1 _)
        go_ret3
        refine ⟨_, by unfold putN putB; rw [HF.out]; simp [hlt]; rfl, ?_, .inr fun j hj => by have := (HO1.out.lt j hj).1; exact this, HBL.out⟩
        unfold putS
        rw [HF.out, if_pos hlt]
        have h9 := HS1.out
        rw [List.nil_append] at h9
        have e8 : slL (S.set k (x, true)) = ((slL S).set (k * 2) (.int .i64 x)).set (k * 2 + 1) (.bool true) := slL_set (x, true) S k hlt
        rw [← e8] at h9
        have e9 : (S.set k (x, true)).length = S.length := List.length_set
        rw [← e9] at h9
        have := rdw_own h9
        rwa [e9] at this
      · have HN := Kp.mk (HNX.out rfl)
        go_wp2_with fail
        go_roundw
        case rel => exact ⟨k + 1, by omega, by go_num, HN.out, by trivial⟩
        case measure => simp [intOf]; omega
    · have HF := Kp.mk (frI_full fun j hj => HH.out j hj (by omega))
      go_wp2_with fail
      go_ret3
      exact ⟨_, by unfold putN putB; rw [HF.out]; simp, by unfold putS; rw [HF.out]; simpa using HV.out, .inl rfl, Below.refl _ _⟩
def RsDrop (v : Value) (S : List Slt) (n : Int) (w : World) (e : Ending) (w' : World) : Prop :=
  ∃ v', e = .returned (.tuple #[v', .bool (getP S n).2]) ∧ RdW w' v' (dropS S n) ∧ NewV v v' w ∧ Below w.heap.size w w'
set_option maxRecDepth 100000 in
set_option maxHeartbeats 2000000 in
theorem rsdrop_any (v : Value) (S : List Slt) (n : Int) (w : World) (hv : RdW w v S) (hl : S.length ≤ 1000) :
    Calls Try.prog 35 #[v, .int .i64 n] w (RsDrop v S n w) := by
  have HV := Kp.mk hv
  have HG := Kp.mk (rsget_any v S n w hv hl)
  obtain ⟨a, c, rfl⟩ := rdw_form hv
  unfold RsDrop
  clear hv
  cases ho : (getP S n).2
  · have HD := Kp.mk (show dropS S n = S by unfold dropS; rw [ho]; rfl)
    rw [ho] at HG
    go_enter Try.func35, Try.ntmps35
    go_wp2_with fail
    refine HG.out.mono ?_
    rintro e w1 ⟨rfl, hb⟩
    have HB := Kp.mk hb
    clear hb
    go_wp2_with fail
    go_ret2
    exact ⟨_, rfl, by rw [HD.out]; exact HV.out.below HB.out, .inl rfl, HB.out⟩
  · have hn : 0 ≤ n ∧ n < S.length := Decidable.byContradiction fun hn => by rw [getP_out (by omega)] at ho; cases ho
    obtain ⟨k, rfl⟩ : ∃ k : Nat, n = (k : Int) := ⟨n.toNat, by omega⟩
    have hlt : k < S.length := by omega
    have HD := Kp.mk (show dropS S (k : Int) = S.set k (0, false) by unfold dropS; rw [ho, if_pos rfl, Int.toNat_natCast])
    rw [ho] at HG
    have q0 : (0 : Int) ≤ (k : Int) := by omega
    have q1 : (k : Int) < (S.length : Int) := by omega
    clear ho
    go_enter Try.func35, Try.ntmps35
    go_wp2_with fail
    refine HG.out.mono ?_
    rintro e w0 ⟨rfl, hb⟩
    have HB0 := Kp.mk hb
    have hBA := hb.alloc hb.size (.cells #[] 129)
    have HVA := Kp.mk ((HV.out.below hb).below ((Below.refl w0.heap.size w0).alloc (Nat.le_refl _) (.cells #[] 129)))
    have HO := Kp.mk (World.ownsRow_lit (base := w.heap.size) (e := 129) (size := 2) w0 #[] 0 hb.size (by unfold maxLen; omega) rfl)
    have HBA := Kp.mk hBA
    have hszA : w.heap.size ≤ (w0.alloc (.cells #[] 129)).heap.size := hBA.size
    have hlen0 : (0 + S.length) * 16 ≤ 140737488355328 := by omega
    have hmx0 : 0 + S.length ≤ maxLen := by unfold maxLen; omega
    clear hBA hb
    go_wp2_with (at_builtin; refine app_slts rfl _ _ _ _ rfl Try.underlying46 _ Try.infoRs rfl w.heap.size _ 0 _ rfl HO.out _ rfl S HVA.out hlen0 hmx0 hszA ?_; intro v1 w1 h1 h2; rw [Nat.zero_add] at h1; have HB1 := Kp.mk (HBA.out.grown h2 hszA fun k hk => (HO.out.lt k hk).1); have HO1 := Kp.mk h1; clear h1 h2; obtain ⟨a1, cc1, rfl⟩ := own_lenH HO1.out; obtain ⟨g1, rfl⟩ := (own_formT HO1.out).resolve_left (fun h => by have := h.2; omega); have f1 := own_freeT HO1.out (k * 2); have f2 := own_freeT HO1.out (k * 2 + 1); obtain ⟨g9, o9, e9, hg9, d9⟩ := rdw_cells (rdw_own HO1.out) (by omega); cases e9; obtain ⟨x1, x2⟩ := d9 k hlt; rw [Nat.zero_add] at x1 x2; clear d9)
    have HS1 := Kp.mk (own_storeT (k := k * 2 + 1) (u := .bool false) (own_storeT (k := k * 2) (u := .int .i64 0) HO1.out))
    have HBL := Kp.mk (show Below w.heap.size w ((w1.setCell ⟨g1, k * 2, none⟩ (.int .i64 0)).setCell ⟨g1, k * 2 + 1, none⟩ (.bool false)) from (HB1.out.setCell (p := ⟨g1, k * 2, none⟩) (HO1.out.lt g1 rfl).1 _).setCell (p := ⟨g1, k * 2 + 1, none⟩) (HO1.out.lt g1 rfl).1 _)
    go_ret2
    refine ⟨_, rfl, ?_, .inr fun j hj => by have := (HO1.out.lt j hj).1; exact this, HBL.out⟩
    rw [HD.out]
    have h9 := HS1.out
    rw [List.nil_append] at h9
    have e8 : slL (S.set k ((0 : Int), false)) = ((slL S).set (k * 2) (.int .i64 0)).set (k * 2 + 1) (.bool false) := slL_set (0, false) S k hlt
    rw [← e8] at h9
    have e9 : (S.set k ((0 : Int), false)).length = S.length := List.length_set
    rw [← e9] at h9
    have := rdw_own h9
    rwa [e9] at this
end Go.Proofs.Ytgamekfickheaaa
