/- First lines (layer 15): what is asked of a response's line, one by one, and in order. -/
import Derived.Test.YtcbfhlnnfnpkdaaGreatDoorStl
import Derived.Test.YtcbfhlnnfnpkdaaGreatDoorKeeps
import Derived.Laws.EntriesVeiled
namespace Go.Proofs.YtcbfhlnnfnpkdaaGreatDoor
open Go.RowKit
set_option linter.unusedVariables false
set_option linter.unusedSimpArgs false

theorem sta1_any (p : Bool) (x : Int) (b c : Nat) (w : World) (h : w.cell? ⟨b, 0, none⟩ = some (.bool p)) (h2 : w.cell? ⟨c, 0, none⟩ = some (.int .i64 x)) (B : Bool) (hB : B = (p && decide (x ≠ 3))) :
    Calls Tryz.prog 70 #[.pointer (some ⟨b, 0, none⟩), .pointer (some ⟨c, 0, none⟩)] w fun e w' => e = .returned (.bool B) ∧ Below w.heap.size w w' := by
  cases p
  · have HR := Kp.mk (show B = false from hB)
    clear hB
    go_enter Tryz.func70, Tryz.ntmps70
    go_wp2_with fail
    go_ret
    exact ⟨by rw [HR.out]; rfl, Below.refl _ _⟩
  · by_cases hx : x = 3
    · have HR := Kp.mk (show B = false by rw [hB, decide_eq_false (by simp [hx])]; rfl)
      subst hx
      clear hB
      go_enter Tryz.func70, Tryz.ntmps70
      go_wp2_with fail
      go_ret
      exact ⟨by rw [HR.out]; rfl, Below.refl _ _⟩
    · have HR := Kp.mk (show B = true by rw [hB, decide_eq_true hx]; rfl)
      have q : (x != 3) = true := by rw [bne_iff_ne]; exact hx
      clear hx
      clear hB
      go_enter Tryz.func70, Tryz.ntmps70
      go_wp2_with fail
      go_ret
      exact ⟨by rw [HR.out]; rfl, Below.refl _ _⟩
theorem sta2_any (nb : ByteArray) (bd : Int) (b c : Nat) (w : World) (h : w.cell? ⟨b, 0, none⟩ = some (.string nb)) (h2 : w.cell? ⟨c, 0, none⟩ = some (.int .i64 bd)) (B : Bool) (hB : B = (decide (nb.size = 3) && (decide (bd = 0) || decide (bd = 5)))) :
    Calls Tryz.prog 71 #[.pointer (some ⟨b, 0, none⟩), .pointer (some ⟨c, 0, none⟩)] w fun e w' => e = .returned (.bool B) ∧ Below w.heap.size w w' := by
  by_cases h3 : nb.size = 3
  · have q3 : ((nb.size : Int) == 3) = true := by rw [h3]; rfl
    by_cases h0 : bd = 0
    · have HR := Kp.mk (show B = true by rw [hB, decide_eq_true h3, decide_eq_true h0]; rfl)
      subst h0
      clear h3
      clear hB
      go_enter Tryz.func71, Tryz.ntmps71
      go_wp2_with fail
      go_ret
      exact ⟨by rw [HR.out]; rfl, Below.refl _ _⟩
    · have q0 : (bd == 0) = false := by rw [beq_eq_false_iff_ne]; exact h0
      by_cases h5 : bd = 5
      · have HR := Kp.mk (show B = true by rw [hB, decide_eq_true h3, decide_eq_true h5, Bool.or_true]; rfl)
        subst h5
        clear h3 h0
        clear hB
        go_enter Tryz.func71, Tryz.ntmps71
        go_wp2_with fail
        go_ret
        exact ⟨by rw [HR.out]; rfl, Below.refl _ _⟩
      · have HR := Kp.mk (show B = false by rw [hB, decide_eq_false h0, decide_eq_false h5, Bool.or_false, Bool.and_false])
        have q5 : (bd == 5) = false := by rw [beq_eq_false_iff_ne]; exact h5
        clear h3 h0 h5
        clear hB
        go_enter Tryz.func71, Tryz.ntmps71
        go_wp2_with fail
        go_ret
        exact ⟨by rw [HR.out]; rfl, Below.refl _ _⟩
  · have q3 : ((nb.size : Int) == 3) = false := by rw [beq_eq_false_iff_ne]; omega
    have HR := Kp.mk (show B = false by rw [hB, decide_eq_false h3]; rfl)
    clear hB
    go_enter Tryz.func71, Tryz.ntmps71
    go_wp2_with fail
    go_ret
    exact ⟨by rw [HR.out]; rfl, Below.refl _ _⟩
theorem emptyS {s : ByteArray} (h : s.size = 0) : s = ⟨#[]⟩ := by
  rw [ba_size'] at h
  have := List.length_eq_zero_iff.1 h
  cases s with | mk d => simp at this; rw [this]
theorem emp_neS {v : ByteArray} (h : v.size ≠ 0) : v.toList.isEmpty = false ∧ ¬ (v.toList = []) := by
  have h1 : v.toList ≠ [] := fun e => by
    rw [ByteArray.toList_eq] at e
    rw [ba_size', e] at h
    exact h rfl
  exact ⟨by cases hv : v.toList with | nil => exact absurd hv h1 | cons a b => rfl, h1⟩
theorem sta3_any (re : ByteArray) (b : Nat) (w : World) (h : w.cell? ⟨b, 0, none⟩ = some (.string re)) (B : Bool) (hB : B = (decide (re.size = 0) || decide (bt re 0 = 32))) :
    Calls Tryz.prog 72 #[.pointer (some ⟨b, 0, none⟩)] w fun e w' => e = .returned (.bool B) ∧ Below w.heap.size w w' := by
  by_cases h0 : re.size = 0
  · have HR := Kp.mk (show B = true by rw [hB, decide_eq_true h0]; rfl)
    obtain rfl := emptyS h0
    clear h0
    clear hB
    go_enter Tryz.func72, Tryz.ntmps72
    go_wp2_with fail
    go_ret
    exact ⟨by rw [HR.out]; rfl, Below.refl _ _⟩
  · have l0 : 0 < re.size := by omega
    have i0 : (0 : Int) < (re.size : Int) := by omega
    obtain ⟨e1, e2⟩ := emp_neS h0
    by_cases h3 : bt re 0 = 32
    · have HR := Kp.mk (show B = true by rw [hB, decide_eq_true h3, Bool.or_true])
      have t : (((re[0]'l0).toNat : Int) == 32) = true := by rw [bt_at re 0 l0, beq_iff_eq]; omega
      clear h0 h3
      clear hB
      go_enter Tryz.func72, Tryz.ntmps72
      go_wp2_with fail
      go_ret
      exact ⟨by rw [HR.out]; rfl, Below.refl _ _⟩
    · have HR := Kp.mk (show B = false by rw [hB, decide_eq_false h3, decide_eq_false h0]; rfl)
      have t : (((re[0]'l0).toNat : Int) == 32) = false := by rw [bt_at re 0 l0, beq_eq_false_iff_ne]; omega
      clear h0 h3
      clear hB
      go_enter Tryz.func72, Tryz.ntmps72
      go_wp2_with fail
      go_ret
      exact ⟨by rw [HR.out]; rfl, Below.refl _ _⟩
theorem sta4_any (x : Int) (b : Nat) (w : World) (h : w.cell? ⟨b, 0, none⟩ = some (.int .i64 x)) (B : Bool) (hB : B = (decide (x = 0))) :
    Calls Tryz.prog 73 #[.pointer (some ⟨b, 0, none⟩)] w fun e w' => e = .returned (.bool B) ∧ Below w.heap.size w w' := by
  by_cases h0 : x = 0
  · have HR := Kp.mk (hB.trans (decide_eq_true h0))
    subst h0
    clear hB
    go_enter Tryz.func73, Tryz.ntmps73
    go_wp2_with fail
    go_ret
    exact ⟨by rw [HR.out]; rfl, Below.refl _ _⟩
  · have q : (x == 0) = false := by rw [beq_eq_false_iff_ne]; exact h0
    have HR := Kp.mk (hB.trans (decide_eq_false h0))
    clear h0
    clear hB
    go_enter Tryz.func73, Tryz.ntmps73
    go_wp2_with fail
    go_ret
    exact ⟨by rw [HR.out]; rfl, Below.refl _ _⟩
theorem sta5_any (bd st : Int) (b c : Nat) (w : World) (h : w.cell? ⟨b, 0, none⟩ = some (.int .i64 bd)) (h2 : w.cell? ⟨c, 0, none⟩ = some (.int .i64 st)) (B : Bool) (hB : B = (decide (bd = 0) && decide (100 ≤ st))) :
    Calls Tryz.prog 74 #[.pointer (some ⟨b, 0, none⟩), .pointer (some ⟨c, 0, none⟩)] w fun e w' => e = .returned (.bool B) ∧ Below w.heap.size w w' := by
  by_cases h0 : bd = 0
  · by_cases h1 : 100 ≤ st
    · have HR := Kp.mk (show B = true by rw [hB, decide_eq_true h0, decide_eq_true h1]; rfl)
      subst h0
      clear hB
      go_enter Tryz.func74, Tryz.ntmps74
      go_wp2_with fail
      go_ret
      exact ⟨by rw [HR.out]; rfl, Below.refl _ _⟩
    · have HR := Kp.mk (show B = false by rw [hB, decide_eq_false h1, Bool.and_false])
      subst h0
      clear hB
      go_enter Tryz.func74, Tryz.ntmps74
      go_wp2_with fail
      go_ret
      exact ⟨by rw [HR.out]; rfl, Below.refl _ _⟩
  · have q : (bd == 0) = false := by rw [beq_eq_false_iff_ne]; exact h0
    have HR := Kp.mk (show B = false by rw [hB, decide_eq_false h0]; rfl)
    clear h0
    clear hB
    go_enter Tryz.func74, Tryz.ntmps74
    go_wp2_with fail
    go_ret
    exact ⟨by rw [HR.out]; rfl, Below.refl _ _⟩
theorem sta6_any (re : ByteArray) (b : Nat) (w : World) (hs : re.size ≤ 100000000) (h : w.cell? ⟨b, 0, none⟩ = some (.string re)) :
    Calls Tryz.prog 75 #[.pointer (some ⟨b, 0, none⟩)] w fun e w' => e = .returned (.bool (allB valueB re)) ∧ Below w.heap.size w w' := by
  go_enter Tryz.func75, Tryz.ntmps75
  go_wp2_with fail
  refine (oct_value_any re _ (by unfold maxLen; omega)).mono ?_
  rintro e w1 ⟨rfl, hb⟩
  go_wp2_with fail
  go_ret
  exact ⟨rfl, hb⟩
set_option maxRecDepth 100000 in
set_option maxHeartbeats 8000000 in
theorem sfirst_any (p : Bool) (x : Int) (nb re : ByteArray) (bd st : Int) (b6 b7 b8 b10 b11 b12 : Nat) (g : Nat) (w : World) (hg : w.heap[g]? = some (.cells #[.func (.func 70) #[] #[.pointer (some ⟨b6, 0, none⟩), .pointer (some ⟨b10, 0, none⟩)], .int .i64 3, .func (.func 71) #[] #[.pointer (some ⟨b7, 0, none⟩), .pointer (some ⟨b12, 0, none⟩)], .int .i64 3, .func (.func 72) #[] #[.pointer (some ⟨b8, 0, none⟩)], .int .i64 3, .func (.func 73) #[] #[.pointer (some ⟨b10, 0, none⟩)], .int .i64 x, .func (.func 74) #[] #[.pointer (some ⟨b12, 0, none⟩), .pointer (some ⟨b11, 0, none⟩)], .int .i64 12, .func (.func 75) #[] #[.pointer (some ⟨b8, 0, none⟩)], .int .i64 7] 85 (0, 0))) (hr : re.size ≤ 100000000) (h6 : w.cell? ⟨b6, 0, none⟩ = some (.bool p)) (h7 : w.cell? ⟨b7, 0, none⟩ = some (.string nb)) (h8 : w.cell? ⟨b8, 0, none⟩ = some (.string re)) (h10 : w.cell? ⟨b10, 0, none⟩ = some (.int .i64 x)) (h11 : w.cell? ⟨b11, 0, none⟩ = some (.int .i64 st)) (h12 : w.cell? ⟨b12, 0, none⟩ = some (.int .i64 bd)) :
    Calls Tryz.prog 63 #[.slice (some ⟨g, 0, none⟩) 6 6] w fun e w' => e = .returned (.int .i64 (chkE [((p && decide (x ≠ 3)), 3), ((decide (nb.size = 3) && (decide (bd = 0) || decide (bd = 5))), 3), ((decide (re.size = 0) || decide (bt re 0 = 32)), 3), (decide (x = 0), x), ((decide (bd = 0) && decide (100 ≤ st)), 12), (allB valueB re, 7)])) ∧ Below w.heap.size w w' := by
  have H_h6 := Kp.mk (And.intro h6 (cell_ltS h6))
  have H_h7 := Kp.mk (And.intro h7 (cell_ltS h7))
  have H_h8 := Kp.mk (And.intro h8 (cell_ltS h8))
  have H_h10 := Kp.mk (And.intro h10 (cell_ltS h10))
  have H_h11 := Kp.mk (And.intro h11 (cell_ltS h11))
  have H_h12 := Kp.mk (And.intro h12 (cell_ltS h12))
  have HG := Kp.mk hg
  have hgl := blk_lt hg
  have HL := Kp.mk (show ∀ k, [((p && decide (x ≠ 3)), 3), ((decide (nb.size = 3) && (decide (bd = 0) || decide (bd = 5))), 3), ((decide (re.size = 0) || decide (bt re 0 = 32)), 3), (decide (x = 0), x), ((decide (bd = 0) && decide (100 ≤ st)), 12), (allB valueB re, 7)].length ≤ k → (∀ j (h : j < [((p && decide (x ≠ 3)), 3), ((decide (nb.size = 3) && (decide (bd = 0) || decide (bd = 5))), 3), ((decide (re.size = 0) || decide (bt re 0 = 32)), 3), (decide (x = 0), x), ((decide (bd = 0) && decide (100 ≤ st)), 12), (allB valueB re, 7)].length), j < k → ([((p && decide (x ≠ 3)), 3), ((decide (nb.size = 3) && (decide (bd = 0) || decide (bd = 5))), 3), ((decide (re.size = 0) || decide (bt re 0 = 32)), 3), (decide (x = 0), x), ((decide (bd = 0) && decide (100 ≤ st)), 12), (allB valueB re, 7)][j]'h).1 = true) → chkE [((p && decide (x ≠ 3)), 3), ((decide (nb.size = 3) && (decide (bd = 0) || decide (bd = 5))), 3), ((decide (re.size = 0) || decide (bt re 0 = 32)), 3), (decide (x = 0), x), ((decide (bd = 0) && decide (100 ≤ st)), 12), (allB valueB re, 7)] = 0 from fun k hk h => chkE_all _ fun j hj => h j hj (by omega))
  have HF := Kp.mk (show ∀ (k : Nat) (h : k < [((p && decide (x ≠ 3)), 3), ((decide (nb.size = 3) && (decide (bd = 0) || decide (bd = 5))), 3), ((decide (re.size = 0) || decide (bt re 0 = 32)), 3), (decide (x = 0), x), ((decide (bd = 0) && decide (100 ≤ st)), 12), (allB valueB re, 7)].length), (∀ j (h : j < [((p && decide (x ≠ 3)), 3), ((decide (nb.size = 3) && (decide (bd = 0) || decide (bd = 5))), 3), ((decide (re.size = 0) || decide (bt re 0 = 32)), 3), (decide (x = 0), x), ((decide (bd = 0) && decide (100 ≤ st)), 12), (allB valueB re, 7)].length), j < k → ([((p && decide (x ≠ 3)), 3), ((decide (nb.size = 3) && (decide (bd = 0) || decide (bd = 5))), 3), ((decide (re.size = 0) || decide (bt re 0 = 32)), 3), (decide (x = 0), x), ((decide (bd = 0) && decide (100 ≤ st)), 12), (allB valueB re, 7)][j]'h).1 = true) → ([((p && decide (x ≠ 3)), 3), ((decide (nb.size = 3) && (decide (bd = 0) || decide (bd = 5))), 3), ((decide (re.size = 0) || decide (bt re 0 = 32)), 3), (decide (x = 0), x), ((decide (bd = 0) && decide (100 ≤ st)), 12), (allB valueB re, 7)][k]'h).1 = false → chkE [((p && decide (x ≠ 3)), 3), ((decide (nb.size = 3) && (decide (bd = 0) || decide (bd = 5))), 3), ((decide (re.size = 0) || decide (bt re 0 = 32)), 3), (decide (x = 0), x), ((decide (bd = 0) && decide (100 ≤ st)), 12), (allB valueB re, 7)] = ([((p && decide (x ≠ 3)), 3), ((decide (nb.size = 3) && (decide (bd = 0) || decide (bd = 5))), 3), ((decide (re.size = 0) || decide (bt re 0 = 32)), 3), (decide (x = 0), x), ((decide (bd = 0) && decide (100 ≤ st)), 12), (allB valueB re, 7)][k]'h).2 from fun k h h1 h2 => chkE_at _ k h h1 h2)
  obtain ⟨L, hL⟩ : ∃ L : List (Bool × Int), L = [((p && decide (x ≠ 3)), 3), ((decide (nb.size = 3) && (decide (bd = 0) || decide (bd = 5))), 3), ((decide (re.size = 0) || decide (bt re 0 = 32)), 3), (decide (x = 0), x), ((decide (bd = 0) && decide (100 ≤ st)), 12), (allB valueB re, 7)] := ⟨_, rfl⟩
  rw [← hL] at HL HF ⊢
  have HLL := Kp.mk hL
  clear hg hL h6 h7 h8 h10 h11 h12
  go_enter Tryz.func63, Tryz.ntmps63
  go_wp2_with fail
  go_loopw [7] (fun i wr => ∃ k : Nat, k ≤ 6 ∧ i = .int .i64 k ∧ (∀ j (h : j < L.length), j < k → (L[j]'h).1 = true) ∧ Below w.heap.size w wr) (fun i _ => 6 - (intOf i).toNat)
  case atStart => exact ⟨0, by omega, rfl, fun j _ h => by omega, Below.refl _ _⟩
  case round =>
    obtain ⟨k, hk, rfl, hh, hb⟩ := hrel
    have HB := Kp.mk hb
    have HH := Kp.mk hh
    have hsz := hb.size
    have HGR := Kp.mk ((hb.block g hgl).trans HG.out)
    clear hh hb
    have hcs : k = 0 ∨ k = 1 ∨ k = 2 ∨ k = 3 ∨ k = 4 ∨ k = 5 ∨ k = 6 := by omega
    rcases hcs with rfl | rfl | rfl | rfl | rfl | rfl | rfl
    · have c1 := blk_cell (i := 0) HGR.out (v := .func (.func 70) #[] #[.pointer (some ⟨b6, 0, none⟩), .pointer (some ⟨b10, 0, none⟩)]) rfl
      have c2 := blk_cell (i := 1) HGR.out (v := .int .i64 3) rfl
      have HBA := Kp.mk (show Below w.heap.size w (wr.alloc (.cells #[.func (.func 70) #[] #[.pointer (some ⟨b6, 0, none⟩), .pointer (some ⟨b10, 0, none⟩)], .int .i64 3] 85)) from HB.out.alloc hsz _)
      have HKA := Kp.mk (heap_alloc_new wr (.cells #[.func (.func 70) #[] #[.pointer (some ⟨b6, 0, none⟩), .pointer (some ⟨b10, 0, none⟩)], .int .i64 3] 85))
      go_wp2_with fail
      refine (sta1_any p x b6 b10 _ (cell_in H_h6.out HBA.out) (cell_in H_h10.out HBA.out) _ rfl).mono ?_
      rintro e w2 ⟨rfl, hb2⟩
      have hk2 := (hb2.block wr.heap.size (by simp)).trans HKA.out
      have d1 := blk_cell (i := 0) hk2 rfl
      have d2 := blk_cell (i := 1) hk2 rfl
      have HB2 := Kp.mk (HBA.out.trans (hb2.mono HBA.out.size))
      have HNX := Kp.mk (show (p && decide (x ≠ 3)) = true → ∀ j (h : j < L.length), j < 1 → (L[j]'h).1 = true from fun hbt j hj hlt => by
        by_cases hjk : j < 0
        · exact HH.out j hj hjk
        · have : j = 0 := by omega
          subst this
          have e9 := HLL.out
          subst e9
          exact hbt)
      have HNO := Kp.mk (show (p && decide (x ≠ 3)) = false → chkE L = 3 from fun hbf => by
        have e9 := HLL.out
        have e8 := HF.out 0 (by rw [e9]; simp) HH.out (by subst e9; exact hbf)
        subst e9
        exact e8)
      clear hb2 hk2
      cases hbb : (p && decide (x ≠ 3))
      · have HR := Kp.mk (HNO.out hbb)
        go_wp2_with fail
        go_ret
        exact ⟨by rw [HR.out]; rfl, HB2.out⟩
      · have HR := Kp.mk (HNX.out hbb)
        go_wp2_with fail
        go_roundw
        case rel => exact ⟨1, by omega, by go_num, HR.out, HB2.out⟩
        case measure => simp [intOf]
    · have c1 := blk_cell (i := 2) HGR.out (v := .func (.func 71) #[] #[.pointer (some ⟨b7, 0, none⟩), .pointer (some ⟨b12, 0, none⟩)]) rfl
      have c2 := blk_cell (i := 3) HGR.out (v := .int .i64 3) rfl
      have HBA := Kp.mk (show Below w.heap.size w (wr.alloc (.cells #[.func (.func 71) #[] #[.pointer (some ⟨b7, 0, none⟩), .pointer (some ⟨b12, 0, none⟩)], .int .i64 3] 85)) from HB.out.alloc hsz _)
      have HKA := Kp.mk (heap_alloc_new wr (.cells #[.func (.func 71) #[] #[.pointer (some ⟨b7, 0, none⟩), .pointer (some ⟨b12, 0, none⟩)], .int .i64 3] 85))
      go_wp2_with fail
      refine (sta2_any nb bd b7 b12 _ (cell_in H_h7.out HBA.out) (cell_in H_h12.out HBA.out) _ rfl).mono ?_
      rintro e w2 ⟨rfl, hb2⟩
      have hk2 := (hb2.block wr.heap.size (by simp)).trans HKA.out
      have d1 := blk_cell (i := 0) hk2 rfl
      have d2 := blk_cell (i := 1) hk2 rfl
      have HB2 := Kp.mk (HBA.out.trans (hb2.mono HBA.out.size))
      have HNX := Kp.mk (show (decide (nb.size = 3) && (decide (bd = 0) || decide (bd = 5))) = true → ∀ j (h : j < L.length), j < 2 → (L[j]'h).1 = true from fun hbt j hj hlt => by
        by_cases hjk : j < 1
        · exact HH.out j hj hjk
        · have : j = 1 := by omega
          subst this
          have e9 := HLL.out
          subst e9
          exact hbt)
      have HNO := Kp.mk (show (decide (nb.size = 3) && (decide (bd = 0) || decide (bd = 5))) = false → chkE L = 3 from fun hbf => by
        have e9 := HLL.out
        have e8 := HF.out 1 (by rw [e9]; simp) HH.out (by subst e9; exact hbf)
        subst e9
        exact e8)
      clear hb2 hk2
      cases hbb : (decide (nb.size = 3) && (decide (bd = 0) || decide (bd = 5)))
      · have HR := Kp.mk (HNO.out hbb)
        go_wp2_with fail
        go_ret
        exact ⟨by rw [HR.out]; rfl, HB2.out⟩
      · have HR := Kp.mk (HNX.out hbb)
        go_wp2_with fail
        go_roundw
        case rel => exact ⟨2, by omega, by go_num, HR.out, HB2.out⟩
        case measure => simp [intOf]
    · have c1 := blk_cell (i := 4) HGR.out (v := .func (.func 72) #[] #[.pointer (some ⟨b8, 0, none⟩)]) rfl
      have c2 := blk_cell (i := 5) HGR.out (v := .int .i64 3) rfl
      have HBA := Kp.mk (show Below w.heap.size w (wr.alloc (.cells #[.func (.func 72) #[] #[.pointer (some ⟨b8, 0, none⟩)], .int .i64 3] 85)) from HB.out.alloc hsz _)
      have HKA := Kp.mk (heap_alloc_new wr (.cells #[.func (.func 72) #[] #[.pointer (some ⟨b8, 0, none⟩)], .int .i64 3] 85))
      go_wp2_with fail
      refine (sta3_any re b8 _ (cell_in H_h8.out HBA.out) _ rfl).mono ?_
      rintro e w2 ⟨rfl, hb2⟩
      have hk2 := (hb2.block wr.heap.size (by simp)).trans HKA.out
      have d1 := blk_cell (i := 0) hk2 rfl
      have d2 := blk_cell (i := 1) hk2 rfl
      have HB2 := Kp.mk (HBA.out.trans (hb2.mono HBA.out.size))
      have HNX := Kp.mk (show (decide (re.size = 0) || decide (bt re 0 = 32)) = true → ∀ j (h : j < L.length), j < 3 → (L[j]'h).1 = true from fun hbt j hj hlt => by
        by_cases hjk : j < 2
        · exact HH.out j hj hjk
        · have : j = 2 := by omega
          subst this
          have e9 := HLL.out
          subst e9
          exact hbt)
      have HNO := Kp.mk (show (decide (re.size = 0) || decide (bt re 0 = 32)) = false → chkE L = 3 from fun hbf => by
        have e9 := HLL.out
        have e8 := HF.out 2 (by rw [e9]; simp) HH.out (by subst e9; exact hbf)
        subst e9
        exact e8)
      clear hb2 hk2
      cases hbb : (decide (re.size = 0) || decide (bt re 0 = 32))
      · have HR := Kp.mk (HNO.out hbb)
        go_wp2_with fail
        go_ret
        exact ⟨by rw [HR.out]; rfl, HB2.out⟩
      · have HR := Kp.mk (HNX.out hbb)
        go_wp2_with fail
        go_roundw
        case rel => exact ⟨3, by omega, by go_num, HR.out, HB2.out⟩
        case measure => simp [intOf]
    · have c1 := blk_cell (i := 6) HGR.out (v := .func (.func 73) #[] #[.pointer (some ⟨b10, 0, none⟩)]) rfl
      have c2 := blk_cell (i := 7) HGR.out (v := .int .i64 x) rfl
      have HBA := Kp.mk (show Below w.heap.size w (wr.alloc (.cells #[.func (.func 73) #[] #[.pointer (some ⟨b10, 0, none⟩)], .int .i64 x] 85)) from HB.out.alloc hsz _)
      have HKA := Kp.mk (heap_alloc_new wr (.cells #[.func (.func 73) #[] #[.pointer (some ⟨b10, 0, none⟩)], .int .i64 x] 85))
      go_wp2_with fail
      refine (sta4_any x b10 _ (cell_in H_h10.out HBA.out) _ rfl).mono ?_
      rintro e w2 ⟨rfl, hb2⟩
      have hk2 := (hb2.block wr.heap.size (by simp)).trans HKA.out
      have d1 := blk_cell (i := 0) hk2 rfl
      have d2 := blk_cell (i := 1) hk2 rfl
      have HB2 := Kp.mk (HBA.out.trans (hb2.mono HBA.out.size))
      have HNX := Kp.mk (show decide (x = 0) = true → ∀ j (h : j < L.length), j < 4 → (L[j]'h).1 = true from fun hbt j hj hlt => by
        by_cases hjk : j < 3
        · exact HH.out j hj hjk
        · have : j = 3 := by omega
          subst this
          have e9 := HLL.out
          subst e9
          exact hbt)
      have HNO := Kp.mk (show decide (x = 0) = false → chkE L = x from fun hbf => by
        have e9 := HLL.out
        have e8 := HF.out 3 (by rw [e9]; simp) HH.out (by subst e9; exact hbf)
        subst e9
        exact e8)
      clear hb2 hk2
      cases hbb : decide (x = 0)
      · have HR := Kp.mk (HNO.out hbb)
        go_wp2_with fail
        go_ret
        exact ⟨by rw [HR.out]; rfl, HB2.out⟩
      · have HR := Kp.mk (HNX.out hbb)
        go_wp2_with fail
        go_roundw
        case rel => exact ⟨4, by omega, by go_num, HR.out, HB2.out⟩
        case measure => simp [intOf]
    · have c1 := blk_cell (i := 8) HGR.out (v := .func (.func 74) #[] #[.pointer (some ⟨b12, 0, none⟩), .pointer (some ⟨b11, 0, none⟩)]) rfl
      have c2 := blk_cell (i := 9) HGR.out (v := .int .i64 12) rfl
      have HBA := Kp.mk (show Below w.heap.size w (wr.alloc (.cells #[.func (.func 74) #[] #[.pointer (some ⟨b12, 0, none⟩), .pointer (some ⟨b11, 0, none⟩)], .int .i64 12] 85)) from HB.out.alloc hsz _)
      have HKA := Kp.mk (heap_alloc_new wr (.cells #[.func (.func 74) #[] #[.pointer (some ⟨b12, 0, none⟩), .pointer (some ⟨b11, 0, none⟩)], .int .i64 12] 85))
      go_wp2_with fail
      refine (sta5_any bd st b12 b11 _ (cell_in H_h12.out HBA.out) (cell_in H_h11.out HBA.out) _ rfl).mono ?_
      rintro e w2 ⟨rfl, hb2⟩
      have hk2 := (hb2.block wr.heap.size (by simp)).trans HKA.out
      have d1 := blk_cell (i := 0) hk2 rfl
      have d2 := blk_cell (i := 1) hk2 rfl
      have HB2 := Kp.mk (HBA.out.trans (hb2.mono HBA.out.size))
      have HNX := Kp.mk (show (decide (bd = 0) && decide (100 ≤ st)) = true → ∀ j (h : j < L.length), j < 5 → (L[j]'h).1 = true from fun hbt j hj hlt => by
        by_cases hjk : j < 4
        · exact HH.out j hj hjk
        · have : j = 4 := by omega
          subst this
          have e9 := HLL.out
          subst e9
          exact hbt)
      have HNO := Kp.mk (show (decide (bd = 0) && decide (100 ≤ st)) = false → chkE L = 12 from fun hbf => by
        have e9 := HLL.out
        have e8 := HF.out 4 (by rw [e9]; simp) HH.out (by subst e9; exact hbf)
        subst e9
        exact e8)
      clear hb2 hk2
      cases hbb : (decide (bd = 0) && decide (100 ≤ st))
      · have HR := Kp.mk (HNO.out hbb)
        go_wp2_with fail
        go_ret
        exact ⟨by rw [HR.out]; rfl, HB2.out⟩
      · have HR := Kp.mk (HNX.out hbb)
        go_wp2_with fail
        go_roundw
        case rel => exact ⟨5, by omega, by go_num, HR.out, HB2.out⟩
        case measure => simp [intOf]
    · have c1 := blk_cell (i := 10) HGR.out (v := .func (.func 75) #[] #[.pointer (some ⟨b8, 0, none⟩)]) rfl
      have c2 := blk_cell (i := 11) HGR.out (v := .int .i64 7) rfl
      have HBA := Kp.mk (show Below w.heap.size w (wr.alloc (.cells #[.func (.func 75) #[] #[.pointer (some ⟨b8, 0, none⟩)], .int .i64 7] 85)) from HB.out.alloc hsz _)
      have HKA := Kp.mk (heap_alloc_new wr (.cells #[.func (.func 75) #[] #[.pointer (some ⟨b8, 0, none⟩)], .int .i64 7] 85))
      go_wp2_with fail
      refine (sta6_any re b8 _ hr (cell_in H_h8.out HBA.out)).mono ?_
      rintro e w2 ⟨rfl, hb2⟩
      have hk2 := (hb2.block wr.heap.size (by simp)).trans HKA.out
      have d1 := blk_cell (i := 0) hk2 rfl
      have d2 := blk_cell (i := 1) hk2 rfl
      have HB2 := Kp.mk (HBA.out.trans (hb2.mono HBA.out.size))
      have HNX := Kp.mk (show allB valueB re = true → ∀ j (h : j < L.length), j < 6 → (L[j]'h).1 = true from fun hbt j hj hlt => by
        by_cases hjk : j < 5
        · exact HH.out j hj hjk
        · have : j = 5 := by omega
          subst this
          have e9 := HLL.out
          subst e9
          exact hbt)
      have HNO := Kp.mk (show allB valueB re = false → chkE L = 7 from fun hbf => by
        have e9 := HLL.out
        have e8 := HF.out 5 (by rw [e9]; simp) HH.out (by subst e9; exact hbf)
        subst e9
        exact e8)
      clear hb2 hk2
      cases hbb : allB valueB re
      · have HR := Kp.mk (HNO.out hbb)
        go_wp2_with fail
        go_ret
        exact ⟨by rw [HR.out]; rfl, HB2.out⟩
      · have HR := Kp.mk (HNX.out hbb)
        go_wp2_with fail
        go_roundw
        case rel => exact ⟨6, by omega, by go_num, HR.out, HB2.out⟩
        case measure => simp [intOf]
    · have HR := Kp.mk (HL.out 6 (by rw [HLL.out]; simp) HH.out)
      go_wp2_with fail
      go_ret
      exact ⟨by rw [HR.out]; rfl, HB.out⟩
end Go.Proofs.YtcbfhlnnfnpkdaaGreatDoor
