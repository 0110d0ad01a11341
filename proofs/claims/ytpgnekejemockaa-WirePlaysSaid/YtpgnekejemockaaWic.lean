/- A peer: what its builders tell; left, Left, Sent, New, End, Send (layer 42). Made by bin/mkwic.py. -/
import Derived.Test.YtpgnekejemockaaWib
import Derived.ChangeAlike
import Derived.Handy
namespace Go.Proofs.Ytpgnekejemockaa
open Go.RowKit
set_option linter.unusedVariables false
set_option linter.unusedSimpArgs false

theorem own_froze {w : World} {g n cap : Nat} {e : TypeId} {xs : List Value} (h : w.ownsRowF 0 e 1 (.slice (some ⟨g, 0, none⟩) n cap) n xs) : (w.freeze ⟨g, 0, none⟩ n).ownsRowF 0 e 1 (.slice (some ⟨g, 0, none⟩) n cap) n xs := by
  refine ⟨h.1, ?_⟩
  rcases h.2 with ⟨hv, -⟩ | ⟨g', cap', cur, fz, hv, hbg, hg, hfz, rest⟩
  · cases hv
  · cases hv
    unfold World.freeze
    split
    · exact .inr ⟨g, cap, cur, fz, rfl, hbg, hg, hfz, rest⟩
    · obtain ⟨lo, hi⟩ := fz
      refine .inr ⟨g, cap, cur, (if lo == hi then (0, 0 + n) else (min lo 0, max hi (0 + n))), rfl, hbg, ?_, ?_, rest⟩
      · simp [Array.getElem?_modify, hg]
      · simp only at hfz
        split <;> simp <;> omega
theorem froze_heap (w : World) (g n k : Nat) (hk : k ≠ g) : (w.freeze ⟨g, 0, none⟩ n).heap[k]? = w.heap[k]? := by
  unfold World.freeze
  split
  · rfl
  · simp only [Array.getElem?_modify]
    rw [if_neg (fun e => hk e.symm)]
theorem froze_kpt (F : Nat → Prop) (w : World) (g n : Nat) (hg : ¬ F g) : Kpt F w (w.freeze ⟨g, 0, none⟩ n) := by
  refine ⟨?_, ?_, ?_, ?_, fun k _ hk => froze_heap w g n k (fun e => hg (e ▸ hk))⟩
  all_goals (unfold World.freeze; split <;> simp)
theorem wrap_idW {x : Int} (h1 : -9223372036854775808 ≤ x) (h2 : x < 9223372036854775808) : IntKind.i64.wrap x = x := by
  simp [IntKind.wrap, IntKind.signed, IntKind.bits, wrap64]
  split <;> omega
theorem ba_ext2B {a b : ByteArray} (h : a.data.toList = b.data.toList) : a = b := by
  cases a with | mk d => cases b with | mk d2 => simp at h; rw [h]
theorem ba_sizeB (s : ByteArray) : s.size = s.data.toList.length := by cases s; rfl
theorem ba_zeroB {s : ByteArray} (h : s.size = 0) : s = ByteArray.empty := ba_ext2B (by rw [ba_sizeB] at h; rw [List.length_eq_zero_iff.1 h]; rfl)
theorem ba_of (s : ByteArray) : (⟨s.data.toList.toArray⟩ : ByteArray) = s := by cases s; simp
theorem WR.cell2 {A : Nat → Prop} {b rd : Nat} {en : Bool} {s1 s2 : ByteArray} {w : World} (h : WR A b rd en s1 s2 w) : w.cell? ⟨b, 2, none⟩ = some (.int .i64 (rd : Int)) := by
  obtain ⟨p1, v1, p2, v2, h, ha⟩ := h
  exact blk_cell h.blk rfl
theorem WR.cell3 {A : Nat → Prop} {b rd : Nat} {en : Bool} {s1 s2 : ByteArray} {w : World} (h : WR A b rd en s1 s2 w) : w.cell? ⟨b, 3, none⟩ = some (.bool en) := by
  obtain ⟨p1, v1, p2, v2, h, ha⟩ := h
  exact blk_cell h.blk rfl
theorem WR.free {A : Nat → Prop} {b rd : Nat} {en : Bool} {s1 s2 : ByteArray} {w : World} (h : WR A b rd en s1 s2 w) (i : Nat) : w.frozen? ⟨b, i, none⟩ = false := by
  obtain ⟨p1, v1, p2, v2, h, ha⟩ := h
  exact blk_free h.blk
theorem WR.setRd {A : Nat → Prop} {b rd : Nat} {en : Bool} {s1 s2 : ByteArray} {w : World} (h : WR A b rd en s1 s2 w) (n : Nat) : WR A b n en s1 s2 (w.setCell ⟨b, 2, none⟩ (.int .i64 (n : Int))) := by
  obtain ⟨p1, v1, p2, v2, h, ha⟩ := h
  exact ⟨p1, v1, p2, v2, ⟨(blk_set h.blk _).trans (by first | rfl | simp), h.q1, h.q2, ownF_keep h.o1 fun k _ _ hv => Below.heap_setCell _ _ _ _ (fun e => h.n1 (by rw [hv, e])), ownF_keep h.o2 fun k _ _ hv => Below.heap_setCell _ _ _ _ (fun e => h.n2 (by rw [hv, e])), h.n1, h.n2, h.n12⟩, ha⟩
theorem WR.setEn {A : Nat → Prop} {b rd : Nat} {en : Bool} {s1 s2 : ByteArray} {w : World} (h : WR A b rd en s1 s2 w) (n : Bool) : WR A b rd n s1 s2 (w.setCell ⟨b, 3, none⟩ (.bool n)) := by
  obtain ⟨p1, v1, p2, v2, h, ha⟩ := h
  exact ⟨p1, v1, p2, v2, ⟨(blk_set h.blk _).trans (by first | rfl | simp), h.q1, h.q2, ownF_keep h.o1 fun k _ _ hv => Below.heap_setCell _ _ _ _ (fun e => h.n1 (by rw [hv, e])), ownF_keep h.o2 fun k _ _ hv => Below.heap_setCell _ _ _ _ (fun e => h.n2 (by rw [hv, e])), h.n1, h.n2, h.n12⟩, ha⟩
theorem WR.has {A : Nat → Prop} {b rd : Nat} {en : Bool} {s1 s2 : ByteArray} {w : World} (h : WR A b rd en s1 s2 w) : A b := by
  obtain ⟨p1, v1, p2, v2, h, ha⟩ := h
  exact ha.a0
theorem WR.drewN {A : Nat → Prop} {b rd : Nat} {en : Bool} {s1 s2 : ByteArray} {w : World} (h : WR A b rd en s1 s2 w) (n : Nat) : WR A b rd en s1 s2 (w.drewN n) := h.below (gdrewN w n)
theorem WR.drew {A : Nat → Prop} {b rd : Nat} {en : Bool} {s1 s2 : ByteArray} {w : World} (h : WR A b rd en s1 s2 w) : WR A b rd en s1 s2 w.drew := h.drewN 1
abbrev WK (A : Nat → Prop) (b rd : Nat) (en : Bool) (s1 s2 : ByteArray) (w w' : World) : Prop := WR A b rd en s1 s2 w' ∧ Kpt (fun k => ¬ A k) w w'

set_option maxHeartbeats 1000000 in
set_option maxRecDepth 100000 in
theorem wstr0 (A : Nat → Prop) (b rd : Nat) (en : Bool) (s1 s2 : ByteArray) (w : World) (h : WR A b rd en s1 s2 w) :
    Calls Try.prog 48 #[.pointer (some ⟨b, 0, none⟩)] w fun e w' => e = .returned (.string s1) ∧ WK A b rd en s1 s2 w w' := by
  have HW := Kp.mk h
  obtain ⟨p1, v1, p2, v2, h, ha⟩ := h
  have H := Kp.mk h
  have HA := Kp.mk ha
  have c1 := blk_cell (i := 1) h.blk rfl
  have c1d : w.drew.cell? ⟨b, 1, none⟩ = some v1 := c1
  have mixed : Try.prog.follows Departure.mixedOrders = true := by kernel_rfl
  have hown := h.o1
  have hlt := blk_lt h.blk
  clear h ha
  have hUN : ∀ (W : World) (q : Option Addr), (Builtin.unsafeString_ #[123, 3] 9 #[.pointer q, .int .i64 0]).run Try.prog W = .ok (.string .empty) W := fun W q => Lib.run_unsafeString_none W _ _ _ q
  rcases hown.2 with ⟨rfl, hz⟩ | ⟨g, cap, cur, fz, rfl, -, hg, hfz, hnc, hcm, hcs, -⟩
  · obtain rfl : s1 = ByteArray.empty := by
      rw [Lib.strCells_length] at hz
      exact ba_zeroB hz
    have hSD : (Builtin.unsafeSliceData_ #[91] 123 #[.slice none 0 0]).run Try.prog w.drew = .ok (.pointer none) w.drew := rfl
    have hUS := hUN w.drew none
    clear hown hUN
    go_enter Try.func48, Try.ntmps48
    go_wp2
    go_region_o
    all_goals (go_wp2; go_ret; exact ⟨rfl, HW.out.drew, (Kpt.refl _ w).drew⟩)
  · rw [Lib.strCells_length] at *
    by_cases h0 : s1.size = 0
    · obtain rfl : s1 = ByteArray.empty := ba_zeroB h0
      by_cases hc0 : cap = 0
      · subst hc0
        have hSD : (Builtin.unsafeSliceData_ #[91] 123 #[.slice (some ⟨g, 0, none⟩) 0 0]).run Try.prog w.drew = .ok (.pointer (some ⟨w.drew.heap.size, 0, none⟩)) (w.drew.alloc (.view ⟨g, 0, none⟩ 5)) :=
          Lib.run_unsafeSliceData_zero w.drew _ _ 5 Try.underlying123 ⟨g, 0, none⟩ 0 (5, cur.size) (by have hg' : w.drew.heap[g]? = some (.cells cur 5 fz) := hg; simp [World.shape?, hg'])
        have hUS := hUN
        have c2 : (w.drew.alloc (.view ⟨g, 0, none⟩ 5)).cell? ⟨b, 1, none⟩ = some (.slice (some ⟨g, 0, none⟩) 0 0) := blk_cell (i := 1) (blk_alloc (w := w.drew) H.out.blk) rfl
        have c3 : (w.alloc (.view ⟨g, 0, none⟩ 5)).cell? ⟨b, 1, none⟩ = some (.slice (some ⟨g, 0, none⟩) 0 0) := c2
        clear hown
        go_enter Try.func48, Try.ntmps48
        go_wp2
        go_region_o
        all_goals (go_wp2; go_ret; exact ⟨rfl, HW.out.drew.below ((Below.refl _ _).alloc (Nat.le_refl _) _), Kpt.of (((gdrewN w 1)).alloc (Nat.le_refl _) _)⟩)
      · have hSD : (Builtin.unsafeSliceData_ #[91] 123 #[.slice (some ⟨g, 0, none⟩) 0 cap]).run Try.prog w.drew = .ok (.pointer (some ⟨g, 0, none⟩)) w.drew := Lib.run_unsafeSliceData_row _ _ _ _ _ _ hc0
        have hUS := hUN w.drew (some ⟨g, 0, none⟩)
        clear hown hc0
        go_enter Try.func48, Try.ntmps48
        go_wp2
        go_region_o
        all_goals (go_wp2; go_ret; exact ⟨rfl, HW.out.drew, (Kpt.refl _ w).drew⟩)
    · have hll : s1.data.toList.length = s1.size := (ba_sizeB s1).symm
      have hSD : (Builtin.unsafeSliceData_ #[91] 123 #[.slice (some ⟨g, 0, none⟩) s1.size cap]).run Try.prog w.drew = .ok (.pointer (some ⟨g, 0, none⟩)) w.drew := Lib.run_unsafeSliceData_row _ _ _ _ _ _ (by omega)
      have hUS : (Builtin.unsafeString_ #[123, 3] 9 #[.pointer (some ⟨g, 0, none⟩), .int .i64 s1.size]).run Try.prog w.drew = .ok (.string s1) (w.drew.freeze ⟨g, 0, none⟩ s1.size) := by
        have := Lib.run_unsafeString_row (P := Try.prog) w.drew 123 3 9 5 Try.underlying123 Try.cellsU8W g cur.size (by have hg' : w.drew.heap[g]? = some (.cells cur 5 fz) := hg; simp [World.shape?, hg']) s1.data.toList (fun e => h0 (by rw [← hll, e]; rfl)) (by omega) (by unfold maxLen at hcm; omega) (fun j x hx => ?_)
        · rw [hll, ba_of] at this
          exact this
        · have hoc := hown.cells (g := g) rfl j (.int .u8 x.toNat) (by rw [Lib.strCells_eq]; simp [Lib.byteCells, hx])
          exact hoc
      have HFR := Kp.mk (show (w.drew.freeze ⟨g, 0, none⟩ s1.size).ownsRowF 0 5 1 (.slice (some ⟨g, 0, none⟩) s1.size cap) (Lib.strCells s1).length (Lib.strCells s1) from by rw [Lib.strCells_length]; exact own_froze (w := w.drew) hown)
      have hgb : b ≠ g := fun e => H.out.n1 (by rw [e]; rfl)
      have hkeep : WK A b rd en s1 s2 w (w.drew.freeze ⟨g, 0, none⟩ s1.size) :=
        ⟨⟨_, _, _, _, ⟨(froze_heap _ _ _ _ hgb).trans H.out.blk, H.out.q1, H.out.q2, HFR.out, ownF_keep H.out.o2 fun k _ _ hv => froze_heap _ _ _ _ (fun e => H.out.n12 k (by rw [e]; rfl) hv), H.out.n1, H.out.n2, H.out.n12⟩, HA.out⟩, (Kpt.of (gdrewN w 1)).trans (froze_kpt _ _ _ _ (fun hF => hF (HA.out.a1 g rfl)))⟩
      have HK := Kp.mk hkeep
      clear hown hkeep hUN
      go_enter Try.func48, Try.ntmps48
      go_wp2
      go_region_o
      all_goals (go_wp2; go_ret; exact ⟨rfl, HK.out⟩)

set_option maxHeartbeats 1000000 in
set_option maxRecDepth 100000 in
theorem wstr4 (A : Nat → Prop) (b rd : Nat) (en : Bool) (s1 s2 : ByteArray) (w : World) (h : WR A b rd en s1 s2 w) :
    Calls Try.prog 48 #[.pointer (some ⟨b, 4, none⟩)] w fun e w' => e = .returned (.string s2) ∧ WK A b rd en s1 s2 w w' := by
  have HW := Kp.mk h
  obtain ⟨p1, v1, p2, v2, h, ha⟩ := h
  have H := Kp.mk h
  have HA := Kp.mk ha
  have c1 := blk_cell (i := 5) h.blk rfl
  have c1d : w.drew.cell? ⟨b, 5, none⟩ = some v2 := c1
  have mixed : Try.prog.follows Departure.mixedOrders = true := by kernel_rfl
  have hown := h.o2
  have hlt := blk_lt h.blk
  clear h ha
  have hUN : ∀ (W : World) (q : Option Addr), (Builtin.unsafeString_ #[123, 3] 9 #[.pointer q, .int .i64 0]).run Try.prog W = .ok (.string .empty) W := fun W q => Lib.run_unsafeString_none W _ _ _ q
  rcases hown.2 with ⟨rfl, hz⟩ | ⟨g, cap, cur, fz, rfl, -, hg, hfz, hnc, hcm, hcs, -⟩
  · obtain rfl : s2 = ByteArray.empty := by
      rw [Lib.strCells_length] at hz
      exact ba_zeroB hz
    have hSD : (Builtin.unsafeSliceData_ #[91] 123 #[.slice none 0 0]).run Try.prog w.drew = .ok (.pointer none) w.drew := rfl
    have hUS := hUN w.drew none
    clear hown hUN
    go_enter Try.func48, Try.ntmps48
    go_wp2
    go_region_o
    all_goals (go_wp2; go_ret; exact ⟨rfl, HW.out.drew, (Kpt.refl _ w).drew⟩)
  · rw [Lib.strCells_length] at *
    by_cases h0 : s2.size = 0
    · obtain rfl : s2 = ByteArray.empty := ba_zeroB h0
      by_cases hc0 : cap = 0
      · subst hc0
        have hSD : (Builtin.unsafeSliceData_ #[91] 123 #[.slice (some ⟨g, 0, none⟩) 0 0]).run Try.prog w.drew = .ok (.pointer (some ⟨w.drew.heap.size, 0, none⟩)) (w.drew.alloc (.view ⟨g, 0, none⟩ 5)) :=
          Lib.run_unsafeSliceData_zero w.drew _ _ 5 Try.underlying123 ⟨g, 0, none⟩ 0 (5, cur.size) (by have hg' : w.drew.heap[g]? = some (.cells cur 5 fz) := hg; simp [World.shape?, hg'])
        have hUS := hUN
        have c2 : (w.drew.alloc (.view ⟨g, 0, none⟩ 5)).cell? ⟨b, 5, none⟩ = some (.slice (some ⟨g, 0, none⟩) 0 0) := blk_cell (i := 5) (blk_alloc (w := w.drew) H.out.blk) rfl
        have c3 : (w.alloc (.view ⟨g, 0, none⟩ 5)).cell? ⟨b, 5, none⟩ = some (.slice (some ⟨g, 0, none⟩) 0 0) := c2
        clear hown
        go_enter Try.func48, Try.ntmps48
        go_wp2
        go_region_o
        all_goals (go_wp2; go_ret; exact ⟨rfl, HW.out.drew.below ((Below.refl _ _).alloc (Nat.le_refl _) _), Kpt.of (((gdrewN w 1)).alloc (Nat.le_refl _) _)⟩)
      · have hSD : (Builtin.unsafeSliceData_ #[91] 123 #[.slice (some ⟨g, 0, none⟩) 0 cap]).run Try.prog w.drew = .ok (.pointer (some ⟨g, 0, none⟩)) w.drew := Lib.run_unsafeSliceData_row _ _ _ _ _ _ hc0
        have hUS := hUN w.drew (some ⟨g, 0, none⟩)
        clear hown hc0
        go_enter Try.func48, Try.ntmps48
        go_wp2
        go_region_o
        all_goals (go_wp2; go_ret; exact ⟨rfl, HW.out.drew, (Kpt.refl _ w).drew⟩)
    · have hll : s2.data.toList.length = s2.size := (ba_sizeB s2).symm
      have hSD : (Builtin.unsafeSliceData_ #[91] 123 #[.slice (some ⟨g, 0, none⟩) s2.size cap]).run Try.prog w.drew = .ok (.pointer (some ⟨g, 0, none⟩)) w.drew := Lib.run_unsafeSliceData_row _ _ _ _ _ _ (by omega)
      have hUS : (Builtin.unsafeString_ #[123, 3] 9 #[.pointer (some ⟨g, 0, none⟩), .int .i64 s2.size]).run Try.prog w.drew = .ok (.string s2) (w.drew.freeze ⟨g, 0, none⟩ s2.size) := by
        have := Lib.run_unsafeString_row (P := Try.prog) w.drew 123 3 9 5 Try.underlying123 Try.cellsU8W g cur.size (by have hg' : w.drew.heap[g]? = some (.cells cur 5 fz) := hg; simp [World.shape?, hg']) s2.data.toList (fun e => h0 (by rw [← hll, e]; rfl)) (by omega) (by unfold maxLen at hcm; omega) (fun j x hx => ?_)
        · rw [hll, ba_of] at this
          exact this
        · have hoc := hown.cells (g := g) rfl j (.int .u8 x.toNat) (by rw [Lib.strCells_eq]; simp [Lib.byteCells, hx])
          exact hoc
      have HFR := Kp.mk (show (w.drew.freeze ⟨g, 0, none⟩ s2.size).ownsRowF 0 5 1 (.slice (some ⟨g, 0, none⟩) s2.size cap) (Lib.strCells s2).length (Lib.strCells s2) from by rw [Lib.strCells_length]; exact own_froze (w := w.drew) hown)
      have hgb : b ≠ g := fun e => H.out.n2 (by rw [e]; rfl)
      have hkeep : WK A b rd en s1 s2 w (w.drew.freeze ⟨g, 0, none⟩ s2.size) :=
        ⟨⟨_, _, _, _, ⟨(froze_heap _ _ _ _ hgb).trans H.out.blk, H.out.q1, H.out.q2, ownF_keep H.out.o1 fun k _ _ hv => froze_heap _ _ _ _ (fun e => H.out.n12 k hv (by rw [e]; rfl)), HFR.out, H.out.n1, H.out.n2, H.out.n12⟩, HA.out⟩, (Kpt.of (gdrewN w 1)).trans (froze_kpt _ _ _ _ (fun hF => hF (HA.out.a2 g rfl)))⟩
      have HK := Kp.mk hkeep
      clear hown hkeep hUN
      go_enter Try.func48, Try.ntmps48
      go_wp2
      go_region_o
      all_goals (go_wp2; go_ret; exact ⟨rfl, HK.out⟩)

set_option maxRecDepth 100000 in
theorem wlen0 (A : Nat → Prop) (b rd : Nat) (en : Bool) (s1 s2 : ByteArray) (w : World) (h : WR A b rd en s1 s2 w) :
    Calls Try.prog 85 #[.pointer (some ⟨b, 0, none⟩)] w fun e w' => e = .returned (.int .i64 s1.size) ∧ w = w' := by
  obtain ⟨p1, v1, p2, v2, h, ha⟩ := h
  have hown := h.o1
  rw [Lib.strCells_length] at hown
  obtain ⟨ao, cap, rfl⟩ : ∃ ao cap, v1 = .slice ao s1.size cap := by
    rcases hown.2 with ⟨hv, h0⟩ | ⟨g, cap, cur, fz, hv, -⟩
    · exact ⟨none, 0, by rw [hv, h0]⟩
    · exact ⟨_, _, hv⟩
  have c1 := blk_cell (i := 1) h.blk rfl
  clear h ha hown
  go_enter Try.func85, Try.ntmps85
  go_wp2_with fail
  go_ret
  exact ⟨rfl, rfl⟩
set_option maxRecDepth 100000 in
theorem wleft (A : Nat → Prop) (b rd : Nat) (en : Bool) (s1 s2 : ByteArray) (w : World) (h : WR A b rd en s1 s2 w) (hr : rd ≤ s1.size) (hs : s1.size ≤ 1000000) :
    Calls Try.prog 67 #[.pointer (some ⟨b, 0, none⟩)] w fun e w' => e = .returned (.string (s1.extract rd s1.size)) ∧ WK A b rd en s1 s2 w w' := by
  have H := Kp.mk h
  have c2 := h.cell2
  have q0 : (0 : Int) ≤ (rd : Int) := by omega
  have q1 : (rd : Int) ≤ (s1.size : Int) := by omega
  clear h
  go_enter Try.func67, Try.ntmps67
  go_wp2_with fail
  first
    | go_region_with (first
        | (go_at_call 48; refine (wstr0 A b rd en s1 s2 _ (H.out.drewN 1)).mono ?_; rintro e w2 ⟨rfl, h2, hk2⟩; have c2' := h2.cell2; have H2 := Kp.mk h2; have HK2 := Kp.mk hk2; clear h2 hk2))
    | fail
  all_goals
    go_wp2_with fail
    go_ret
    exact ⟨rfl, H2.out, (Kpt.of (gdrewN w 1)).trans HK2.out⟩
set_option maxRecDepth 100000 in
theorem wLeft (A : Nat → Prop) (b rd : Nat) (en : Bool) (s1 s2 : ByteArray) (w : World) (h : WR A b rd en s1 s2 w) (hr : rd ≤ s1.size) (hs : s1.size ≤ 1000000) :
    Calls Try.prog 32 #[.pointer (some ⟨b, 0, none⟩)] w fun e w' => e = .returned (.int .i64 ((s1.size - rd : Nat) : Int)) ∧ WK A b rd en s1 s2 w w' := by
  have H := Kp.mk h
  have HZ := Kp.mk (show (s1.extract rd s1.size).size = s1.size - rd by simp)
  clear h
  go_enter Try.func32, Try.ntmps32
  go_wp2_with fail
  refine (wleft A b rd en s1 s2 _ H.out hr hs).mono ?_
  rintro e w1 ⟨rfl, h1⟩
  have H1 := Kp.mk h1
  clear h1 hr hs
  generalize s1.extract rd s1.size = x at *
  go_wp2_with fail
  go_ret
  exact ⟨by rw [HZ.out]; rfl, H1.out⟩
set_option maxRecDepth 100000 in
theorem wSent (A : Nat → Prop) (b rd : Nat) (en : Bool) (s1 s2 : ByteArray) (w : World) (h : WR A b rd en s1 s2 w) :
    Calls Try.prog 33 #[.pointer (some ⟨b, 0, none⟩)] w fun e w' => e = .returned (.string s2) ∧ WK A b rd en s1 s2 w w' := by
  have H := Kp.mk h
  clear h
  go_enter Try.func33, Try.ntmps33
  go_wp2_with fail
  refine (wstr4 A b rd en s1 s2 _ H.out).mono ?_
  rintro e w1 ⟨rfl, h1⟩
  have H1 := Kp.mk h1
  clear h1
  go_wp2_with fail
  go_ret
  exact ⟨rfl, H1.out⟩
set_option maxRecDepth 100000 in
theorem wEnd (A : Nat → Prop) (b rd : Nat) (en : Bool) (s1 s2 : ByteArray) (w : World) (h : WR A b rd en s1 s2 w) :
    Calls Try.prog 58 #[.pointer (some ⟨b, 0, none⟩)] w fun e w' => e = .returned (.tuple #[]) ∧ WK A b rd true s1 s2 w w' := by
  have H := Kp.mk h
  have c3 := h.cell3
  have f3 := h.free 3
  clear h
  go_enter Try.func58, Try.ntmps58
  go_wp2_with fail
  go_returns
  exact ⟨rfl, H.out.setEn true, (Kpt.refl _ w).setCell _ _ (fun hF => hF H.out.has)⟩
set_option maxRecDepth 100000 in
theorem wNew (w : World) :
    Calls Try.prog 29 #[] w fun e w' => ∃ b, e = .returned (.pointer (some ⟨b, 0, none⟩)) ∧ WR (fun k => k = b) b 0 false .empty .empty w' ∧ w.heap.size ≤ b ∧ Below w.heap.size w w' := by
  go_enter Try.func29, Try.ntmps29
  go_wp2_with fail
  go_ret
  refine ⟨_, rfl, ⟨_, _, _, _, ⟨by first | exact heap_alloc_new w _ | simp [heap_alloc_new], .inl rfl, .inl rfl, World.ownsRowF_nil _ _ _ _, World.ownsRowF_nil _ _ _ _, fun e => by simp [Value.ownBlock] at e, fun e => by simp [Value.ownBlock] at e, fun k e => by simp [Value.ownBlock] at e⟩, ⟨rfl, fun k e => by simp [Value.ownBlock] at e, fun k e => by simp [Value.ownBlock] at e⟩⟩, Nat.le_refl _, (Below.refl _ w).alloc (Nat.le_refl _) _⟩
set_option maxRecDepth 100000 in
theorem wSend (A : Nat → Prop) (b rd : Nat) (en : Bool) (s1 s2 s : ByteArray) (w : World) (h : WR A b rd en s1 s2 w) (h1 : s1.size ≤ 100000) (hs : s.size ≤ 1000) :
    Calls Try.prog 54 #[.pointer (some ⟨b, 0, none⟩), .string s] w fun e w' => e = .returned (.int .i64 (if en then 0 else s.size : Nat)) ∧ WTo A b rd en (if en then s1 else s1 ++ s) s2 w w' := by
  have H := Kp.mk h
  have c3 := h.cell3
  clear h
  cases en
  · have hE := Kp.mk (show s.extract 0 s.size = s from ba_ext2B (by rw [Lib.extract_data, List.drop_zero, Nat.sub_zero, List.take_of_length_le (by rw [← ba_sizeB]; omega)]))
    have HM := Kp.mk (show min (s.size : Int) ((1048576 : Int) - (s1.size : Int)) = (s.size : Int) by omega)
    have HEX := Kp.mk (show s.extract 0 (min (s.size : Int) ((1048576 : Int) - (s1.size : Int))).toNat = s by rw [HM.out, Int.toNat_natCast]; exact hE.out)
    have t1 : (0 : Int) ≤ min (s.size : Int) ((1048576 : Int) - (s1.size : Int)) := by omega
    have t2 : min (s.size : Int) ((1048576 : Int) - (s1.size : Int)) ≤ (s.size : Int) := by omega
    have t3 : IntKind.i64.wrap ((1048576 : Int) - (s1.size : Int)) = (1048576 : Int) - (s1.size : Int) := wrap_idW (by omega) (by omega)
    go_enter Try.func54, Try.ntmps54
    go_wp2_with fail
    refine (wlen0 A b rd false s1 s2 _ H.out).mono ?_
    rintro e w1 ⟨rfl, rfl⟩
    go_wp2_with fail
    have HD := Kp.mk (H.out.drewN 1)
    have HWR := Kp.mk (wwrite0 A b rd false s1 s2 s _ HD.out (by omega))
    go_region_with (go_at_call 47; rw [HEX.out]; refine HWR.out.mono ?_; rintro e w2 ⟨rfl, h2⟩; have H2 := Kp.mk h2; clear h2)
    all_goals
      go_wp2_with fail
      go_ret
      obtain ⟨A', g1, g2, g3⟩ := H2.out
      refine ⟨congrArg (fun i => Ending.returned (Value.int .i64 i)) HM.out, A', g1, g2, (Kpt.of (gdrewN w 1)).trans g3⟩
  · go_enter Try.func54, Try.ntmps54
    go_wp2_with fail
    go_ret
    exact ⟨rfl, A, H.out, fun k hk => .inl hk, Kpt.refl _ _⟩
end Go.Proofs.Ytpgnekejemockaa
