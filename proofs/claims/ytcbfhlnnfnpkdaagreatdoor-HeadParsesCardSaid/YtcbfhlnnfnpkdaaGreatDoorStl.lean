/- First lines (layer 15): what is asked of a request's line, in order. -/
import Derived.Test.YtcbfhlnnfnpkdaaGreatDoorStk
namespace Go.Proofs.YtcbfhlnnfnpkdaaGreatDoor
open Go.RowKit
set_option linter.unusedVariables false
set_option linter.unusedSimpArgs false

/-- The error of the first that doesn't hold. -/
def chkE : List (Bool × Int) → Int
  | [] => 0
  | (b, e) :: r => if b = false then e else chkE r
theorem chkE_all : ∀ L : List (Bool × Int), (∀ j (h : j < L.length), (L[j]'h).1 = true) → chkE L = 0
  | [], _ => rfl
  | (b, e) :: r, h => by
    have h0 : b = true := h 0 (by simp)
    unfold chkE
    rw [if_neg (by rw [h0]; decide)]
    exact chkE_all r fun j hj => h (j + 1) (by simpa using hj)
theorem chkE_at : ∀ (L : List (Bool × Int)) (k : Nat) (h : k < L.length), (∀ j (h : j < L.length), j < k → (L[j]'h).1 = true) → (L[k]'h).1 = false → chkE L = (L[k]'h).2
  | (b, e) :: r, 0, _, _, h2 => by
    unfold chkE
    exact if_pos h2
  | (b, e) :: r, k + 1, h, h1, h2 => by
    have h0 : b = true := h1 0 (by simp) (by omega)
    unfold chkE
    rw [if_neg (by rw [h0]; decide)]
    exact chkE_at r k (by simpa using h) (fun j hj hjk => h1 (j + 1) (by simpa using hj) (by omega)) h2
theorem cell_ltS {w : World} {b : Nat} {o : Nat} {v : Value} (h : w.cell? ⟨b, o, none⟩ = some v) : b < w.heap.size := by
  unfold World.cell? at h
  split at h
  · rename_i hh
    exact (Array.getElem?_eq_some_iff.1 hh).1
  · cases h
theorem cell_in {w w1 : World} {b : Nat} {v : Value} (h : w.cell? ⟨b, 0, none⟩ = some v ∧ b < w.heap.size) (hb : Below w.heap.size w w1) : w1.cell? ⟨b, 0, none⟩ = some v := (hb.cell (p := ⟨b, 0, none⟩) h.2).trans h.1
set_option maxRecDepth 100000 in
set_option maxHeartbeats 8000000 in
theorem rfirst_any (s m t : ByteArray) (x : Int) (b1 b2 b3 b4 : Nat) (g : Nat) (w : World) (hg : w.heap[g]? = some (.cells #[.func (.func 64) #[] #[.pointer (some ⟨b1, 0, none⟩)], .int .i64 3, .func (.func 66) #[] #[.pointer (some ⟨b2, 0, none⟩)], .int .i64 6, .func (.func 67) #[] #[.pointer (some ⟨b3, 0, none⟩)], .int .i64 11, .func (.func 68) #[] #[.pointer (some ⟨b4, 0, none⟩)], .int .i64 x] 85 (0, 0))) (hm : m.size ≤ 100000000) (ht : t.size ≤ 100000000) (h1 : w.cell? ⟨b1, 0, none⟩ = some (.string s)) (h2 : w.cell? ⟨b2, 0, none⟩ = some (.string m)) (h3 : w.cell? ⟨b3, 0, none⟩ = some (.string t)) (h4 : w.cell? ⟨b4, 0, none⟩ = some (.int .i64 x)) :
    Calls Tryz.prog 63 #[.slice (some ⟨g, 0, none⟩) 4 4] w fun e w' => e = .returned (.int .i64 (chkE [(decide (cnt32 s = 2), 3), (tokenB m, 6), (visibleB t, 11), (decide (x = 0), x)])) ∧ Below w.heap.size w w' := by
  have H_h1 := Kp.mk (And.intro h1 (cell_ltS h1))
  have H_h2 := Kp.mk (And.intro h2 (cell_ltS h2))
  have H_h3 := Kp.mk (And.intro h3 (cell_ltS h3))
  have H_h4 := Kp.mk (And.intro h4 (cell_ltS h4))
  have HG := Kp.mk hg
  have hgl := blk_lt hg
  have HL := Kp.mk (show ∀ k, [(decide (cnt32 s = 2), 3), (tokenB m, 6), (visibleB t, 11), (decide (x = 0), x)].length ≤ k → (∀ j (h : j < [(decide (cnt32 s = 2), 3), (tokenB m, 6), (visibleB t, 11), (decide (x = 0), x)].length), j < k → ([(decide (cnt32 s = 2), 3), (tokenB m, 6), (visibleB t, 11), (decide (x = 0), x)][j]'h).1 = true) → chkE [(decide (cnt32 s = 2), 3), (tokenB m, 6), (visibleB t, 11), (decide (x = 0), x)] = 0 from fun k hk h => chkE_all _ fun j hj => h j hj (by omega))
  have HF := Kp.mk (show ∀ (k : Nat) (h : k < [(decide (cnt32 s = 2), 3), (tokenB m, 6), (visibleB t, 11), (decide (x = 0), x)].length), (∀ j (h : j < [(decide (cnt32 s = 2), 3), (tokenB m, 6), (visibleB t, 11), (decide (x = 0), x)].length), j < k → ([(decide (cnt32 s = 2), 3), (tokenB m, 6), (visibleB t, 11), (decide (x = 0), x)][j]'h).1 = true) → ([(decide (cnt32 s = 2), 3), (tokenB m, 6), (visibleB t, 11), (decide (x = 0), x)][k]'h).1 = false → chkE [(decide (cnt32 s = 2), 3), (tokenB m, 6), (visibleB t, 11), (decide (x = 0), x)] = ([(decide (cnt32 s = 2), 3), (tokenB m, 6), (visibleB t, 11), (decide (x = 0), x)][k]'h).2 from fun k h h1 h2 => chkE_at _ k h h1 h2)
  obtain ⟨L, hL⟩ : ∃ L : List (Bool × Int), L = [(decide (cnt32 s = 2), 3), (tokenB m, 6), (visibleB t, 11), (decide (x = 0), x)] := ⟨_, rfl⟩
  rw [← hL] at HL HF ⊢
  have HLL := Kp.mk hL
  clear hg hL h1 h2 h3 h4
  go_enter Tryz.func63, Tryz.ntmps63
  go_wp2_with fail
  go_loopw [7] (fun i wr => ∃ k : Nat, k ≤ 4 ∧ i = .int .i64 k ∧ (∀ j (h : j < L.length), j < k → (L[j]'h).1 = true) ∧ Below w.heap.size w wr) (fun i _ => 4 - (intOf i).toNat)
  case atStart => exact ⟨0, by omega, rfl, fun j _ h => by omega, Below.refl _ _⟩
  case round =>
    obtain ⟨k, hk, rfl, hh, hb⟩ := hrel
    have HB := Kp.mk hb
    have HH := Kp.mk hh
    have hsz := hb.size
    have HGR := Kp.mk ((hb.block g hgl).trans HG.out)
    clear hh hb
    have hcs : k = 0 ∨ k = 1 ∨ k = 2 ∨ k = 3 ∨ k = 4 := by omega
    rcases hcs with rfl | rfl | rfl | rfl | rfl
    · have c1 := blk_cell (i := 0) HGR.out (v := .func (.func 64) #[] #[.pointer (some ⟨b1, 0, none⟩)]) rfl
      have c2 := blk_cell (i := 1) HGR.out (v := .int .i64 3) rfl
      have HBA := Kp.mk (show Below w.heap.size w (wr.alloc (.cells #[.func (.func 64) #[] #[.pointer (some ⟨b1, 0, none⟩)], .int .i64 3] 85)) from HB.out.alloc hsz _)
      have HKA := Kp.mk (heap_alloc_new wr (.cells #[.func (.func 64) #[] #[.pointer (some ⟨b1, 0, none⟩)], .int .i64 3] 85))
      go_wp2_with fail
      refine (req1_any s b1 _ (cell_in H_h1.out HBA.out)).mono ?_
      rintro e w2 ⟨rfl, hb2⟩
      have hk2 := (hb2.block wr.heap.size (by simp)).trans HKA.out
      have d1 := blk_cell (i := 0) hk2 rfl
      have d2 := blk_cell (i := 1) hk2 rfl
      have HB2 := Kp.mk (HBA.out.trans (hb2.mono HBA.out.size))
      have HNX := Kp.mk (show decide (cnt32 s = 2) = true → ∀ j (h : j < L.length), j < 1 → (L[j]'h).1 = true from fun hbt j hj hlt => by
        by_cases hjk : j < 0
        · exact HH.out j hj hjk
        · have : j = 0 := by omega
          subst this
          have e9 := HLL.out
          subst e9
          exact hbt)
      have HNO := Kp.mk (show decide (cnt32 s = 2) = false → chkE L = 3 from fun hbf => by
        have e9 := HLL.out
        have e8 := HF.out 0 (by rw [e9]; simp) HH.out (by subst e9; exact hbf)
        subst e9
        exact e8)
      clear hb2 hk2
      cases hbb : decide (cnt32 s = 2)
      · have HR := Kp.mk (HNO.out hbb)
        go_wp2_with fail
        go_ret
        exact ⟨by rw [HR.out]; rfl, HB2.out⟩
      · have HR := Kp.mk (HNX.out hbb)
        go_wp2_with fail
        go_roundw
        case rel => exact ⟨1, by omega, by go_num, HR.out, HB2.out⟩
        case measure => simp [intOf]
    · have c1 := blk_cell (i := 2) HGR.out (v := .func (.func 66) #[] #[.pointer (some ⟨b2, 0, none⟩)]) rfl
      have c2 := blk_cell (i := 3) HGR.out (v := .int .i64 6) rfl
      have HBA := Kp.mk (show Below w.heap.size w (wr.alloc (.cells #[.func (.func 66) #[] #[.pointer (some ⟨b2, 0, none⟩)], .int .i64 6] 85)) from HB.out.alloc hsz _)
      have HKA := Kp.mk (heap_alloc_new wr (.cells #[.func (.func 66) #[] #[.pointer (some ⟨b2, 0, none⟩)], .int .i64 6] 85))
      go_wp2_with fail
      refine (req2_any m b2 _ hm (cell_in H_h2.out HBA.out)).mono ?_
      rintro e w2 ⟨rfl, hb2⟩
      have hk2 := (hb2.block wr.heap.size (by simp)).trans HKA.out
      have d1 := blk_cell (i := 0) hk2 rfl
      have d2 := blk_cell (i := 1) hk2 rfl
      have HB2 := Kp.mk (HBA.out.trans (hb2.mono HBA.out.size))
      have HNX := Kp.mk (show tokenB m = true → ∀ j (h : j < L.length), j < 2 → (L[j]'h).1 = true from fun hbt j hj hlt => by
        by_cases hjk : j < 1
        · exact HH.out j hj hjk
        · have : j = 1 := by omega
          subst this
          have e9 := HLL.out
          subst e9
          exact hbt)
      have HNO := Kp.mk (show tokenB m = false → chkE L = 6 from fun hbf => by
        have e9 := HLL.out
        have e8 := HF.out 1 (by rw [e9]; simp) HH.out (by subst e9; exact hbf)
        subst e9
        exact e8)
      clear hb2 hk2
      cases hbb : tokenB m
      · have HR := Kp.mk (HNO.out hbb)
        go_wp2_with fail
        go_ret
        exact ⟨by rw [HR.out]; rfl, HB2.out⟩
      · have HR := Kp.mk (HNX.out hbb)
        go_wp2_with fail
        go_roundw
        case rel => exact ⟨2, by omega, by go_num, HR.out, HB2.out⟩
        case measure => simp [intOf]
    · have c1 := blk_cell (i := 4) HGR.out (v := .func (.func 67) #[] #[.pointer (some ⟨b3, 0, none⟩)]) rfl
      have c2 := blk_cell (i := 5) HGR.out (v := .int .i64 11) rfl
      have HBA := Kp.mk (show Below w.heap.size w (wr.alloc (.cells #[.func (.func 67) #[] #[.pointer (some ⟨b3, 0, none⟩)], .int .i64 11] 85)) from HB.out.alloc hsz _)
      have HKA := Kp.mk (heap_alloc_new wr (.cells #[.func (.func 67) #[] #[.pointer (some ⟨b3, 0, none⟩)], .int .i64 11] 85))
      go_wp2_with fail
      refine (req3_any t b3 _ ht (cell_in H_h3.out HBA.out)).mono ?_
      rintro e w2 ⟨rfl, hb2⟩
      have hk2 := (hb2.block wr.heap.size (by simp)).trans HKA.out
      have d1 := blk_cell (i := 0) hk2 rfl
      have d2 := blk_cell (i := 1) hk2 rfl
      have HB2 := Kp.mk (HBA.out.trans (hb2.mono HBA.out.size))
      have HNX := Kp.mk (show visibleB t = true → ∀ j (h : j < L.length), j < 3 → (L[j]'h).1 = true from fun hbt j hj hlt => by
        by_cases hjk : j < 2
        · exact HH.out j hj hjk
        · have : j = 2 := by omega
          subst this
          have e9 := HLL.out
          subst e9
          exact hbt)
      have HNO := Kp.mk (show visibleB t = false → chkE L = 11 from fun hbf => by
        have e9 := HLL.out
        have e8 := HF.out 2 (by rw [e9]; simp) HH.out (by subst e9; exact hbf)
        subst e9
        exact e8)
      clear hb2 hk2
      cases hbb : visibleB t
      · have HR := Kp.mk (HNO.out hbb)
        go_wp2_with fail
        go_ret
        exact ⟨by rw [HR.out]; rfl, HB2.out⟩
      · have HR := Kp.mk (HNX.out hbb)
        go_wp2_with fail
        go_roundw
        case rel => exact ⟨3, by omega, by go_num, HR.out, HB2.out⟩
        case measure => simp [intOf]
    · have c1 := blk_cell (i := 6) HGR.out (v := .func (.func 68) #[] #[.pointer (some ⟨b4, 0, none⟩)]) rfl
      have c2 := blk_cell (i := 7) HGR.out (v := .int .i64 x) rfl
      have HBA := Kp.mk (show Below w.heap.size w (wr.alloc (.cells #[.func (.func 68) #[] #[.pointer (some ⟨b4, 0, none⟩)], .int .i64 x] 85)) from HB.out.alloc hsz _)
      have HKA := Kp.mk (heap_alloc_new wr (.cells #[.func (.func 68) #[] #[.pointer (some ⟨b4, 0, none⟩)], .int .i64 x] 85))
      go_wp2_with fail
      refine (req4_any x b4 _ (cell_in H_h4.out HBA.out)).mono ?_
      rintro e w2 ⟨rfl, hb2⟩
      have hk2 := (hb2.block wr.heap.size (by simp)).trans HKA.out
      have d1 := blk_cell (i := 0) hk2 rfl
      have d2 := blk_cell (i := 1) hk2 rfl
      have HB2 := Kp.mk (HBA.out.trans (hb2.mono HBA.out.size))
      have HNX := Kp.mk (show decide (x = 0) = true → ∀ j (h : j < L.length), j < 4 → (L[j]'h).1 = true from fun hbt j hj hlt => by
        by_cases hjk : j < 3
        · exact HH.out j hj hjk
        · have : j = 3 := by omega
          subst this
          have e9 := HLL.out
          subst e9
          exact hbt)
      have HNO := Kp.mk (show decide (x = 0) = false → chkE L = x from fun hbf => by
        have e9 := HLL.out
        have e8 := HF.out 3 (by rw [e9]; simp) HH.out (by subst e9; exact hbf)
        subst e9
        exact e8)
      clear hb2 hk2
      cases hbb : decide (x = 0)
      · have HR := Kp.mk (HNO.out hbb)
        go_wp2_with fail
        go_ret
        exact ⟨by rw [HR.out]; rfl, HB2.out⟩
      · have HR := Kp.mk (HNX.out hbb)
        go_wp2_with fail
        go_roundw
        case rel => exact ⟨4, by omega, by go_num, HR.out, HB2.out⟩
        case measure => simp [intOf]
    · have HR := Kp.mk (HL.out 4 (by rw [HLL.out]; simp) HH.out)
      go_wp2_with fail
      go_ret
      exact ⟨by rw [HR.out]; rfl, HB.out⟩
end Go.Proofs.YtcbfhlnnfnpkdaaGreatDoor
