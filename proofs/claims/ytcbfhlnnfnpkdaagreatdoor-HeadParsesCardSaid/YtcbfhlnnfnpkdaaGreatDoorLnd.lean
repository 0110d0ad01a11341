/- Lines that are taken out of octets: New, Line (layer 16). -/
import Derived.Test.YtcbfhlnnfnpkdaaGreatDoorLnc
namespace Go.Proofs.YtcbfhlnnfnpkdaaGreatDoor
open Go.RowKit
set_option linter.unusedVariables false
set_option linter.unusedSimpArgs false

theorem LinAt.fresh (w : World) (most : Nat) (hm : most ≤ 65536) : LinAt w.heap.size most ls0 (.slice none 0 0) (w.alloc (.cells #[.int .i64 most, .int .i64 0, .slice none 0 0, .bool false, .bool false, .int .i64 0] 105)) :=
  ⟨heap_alloc_new w _, World.ownsRow_nil _ _ _ _, by simp [Value.ownBlock], hm, by simp [ls0], by simp [ls0], by simp [ls0]⟩
theorem new_no (m : Int) (w : World) (h : m < 0 ∨ 65536 < m) :
    Calls Tryz.prog 52 #[.int .i64 m] w fun e w' => e = .returned (.pointer none) ∧ Below w.heap.size w w' := by
  rcases h with h | h
  · go_enter Tryz.func52, Tryz.ntmps52
    go_wp2_with fail
    go_ret
    refine ⟨rfl, ?_⟩
    first | exact Below.refl _ _ | exact (Below.refl _ _).alloc (Nat.le_refl _) _
  · have h' : ¬ m < 0 := by omega
    go_enter Tryz.func52, Tryz.ntmps52
    go_wp2_with fail
    go_ret
    refine ⟨rfl, ?_⟩
    first | exact Below.refl _ _ | exact (Below.refl _ _).alloc (Nat.le_refl _) _
theorem new_yes (m : Nat) (w : World) (h : m ≤ 65536) :
    Calls Tryz.prog 52 #[.int .i64 m] w fun e w' => e = .returned (.pointer (some ⟨w.heap.size, 0, none⟩)) ∧ LinAt w.heap.size m ls0 (.slice none 0 0) w' ∧ w'.heap.size = w.heap.size + 1 ∧ Below w.heap.size w w' := by
  have HQ := Kp.mk (LinAt.fresh w m h)
  go_enter Tryz.func52, Tryz.ntmps52
  go_wp2_with fail
  go_ret
  exact ⟨rfl, HQ.out, by simp, (Below.refl _ _).alloc (Nat.le_refl _) _⟩
theorem line_none (w : World) :
    Calls Tryz.prog 60 #[.pointer none] w fun e w' => e = .returned (.string ⟨#[]⟩) ∧ w = w' := by
  go_enter Tryz.func60, Tryz.ntmps60
  go_wp2_with fail
  refine (whole_none _).mono ?_
  rintro e w1 ⟨rfl, rfl⟩
  go_wp2_with fail
  go_ret
  exact ⟨rfl, rfl⟩
theorem line_no (b most : Nat) (st : LS) (tv : Value) (w : World) (h : LinAt b most st tv w) (hw : st.whole = false) :
    Calls Tryz.prog 60 #[.pointer (some ⟨b, 0, none⟩)] w fun e w' => e = .returned (.string ⟨#[]⟩) ∧ w = w' := by
  have H := Kp.mk h
  have HW := Kp.mk hw
  clear h hw
  go_enter Tryz.func60, Tryz.ntmps60
  go_wp2_with fail
  refine (whole_any b most st tv _ H.out).mono ?_
  rintro e w1 ⟨rfl, rfl⟩
  rw [HW.out]
  go_wp2_with fail
  go_ret
  exact ⟨rfl, rfl⟩
set_option maxHeartbeats 1000000 in
theorem line_yes (b most : Nat) (st : LS) (tv : Value) (w : World) (h : LinAt b most st tv w) (hw : st.whole = true) :
    Calls Tryz.prog 60 #[.pointer (some ⟨b, 0, none⟩)] w fun e w' => e = .returned (.string ⟨st.text.toArray⟩) ∧ LinTo b most { st with text := [], whole := false } tv w w' := by
  have H := Kp.mk h
  have hcv := own_string (src := 58) (dst := 9) Tryz.underlying58 Tryz.underlying5 Tryz.underlying9 h.own
  obtain ⟨spent, text, cr, whole, err⟩ := st
  have hf := h.facts
  rcases h.own.2 with ⟨hv, hn⟩ | ⟨g, cap, cur, hv, h3, h4, h5, h6, h7, h8⟩
  · subst hv
    obtain ⟨c0, c1, c2, c3, c4, c5, f1, f2, f3, f4, f5⟩ := hf
    clear h hn
    simp only at *
    subst hw
    go_enter Tryz.func60, Tryz.ntmps60
    go_wp2_with fail
    refine (whole_any b most _ _ _ H.out).mono ?_
    rintro e w1 ⟨rfl, rfl⟩
    go_wp2_with fail
    go_ret
    refine ⟨rfl, .slice none 0 0, ⟨(blk_set (blk_set H.out.blk _) _).trans rfl, World.ownsRow_nil _ _ _ _, by simp [Value.ownBlock], H.out.most_le, H.out.spent_le, by simp, H.out.err_ge⟩, ((Onl.refl _ _ _).setCell _ _).setCell _ _, Nxt.refl _ _⟩
  · subst hv
    obtain ⟨c0, c1, c2, c3, c4, c5, f1, f2, f3, f4, f5⟩ := hf
    have HC := Kp.mk h6
    have HB := Kp.mk h4
    have HS := Kp.mk h7
    have HAP := Kp.mk h.apart
    have hcm : cap ≤ 9223372036854775807 := by unfold maxLen at h6; omega
    clear h h3 h4 h5 h6 h7 h8
    simp only at *
    subst hw
    go_enter Tryz.func60, Tryz.ntmps60
    go_wp2_with fail
    refine (whole_any b most _ _ _ H.out).mono ?_
    rintro e w1 ⟨rfl, rfl⟩
    go_wp2_with fail
    go_ret
    have hap : (Value.slice (some ⟨g, 0, none⟩) 0 cap).ownBlock ≠ some b := HAP.out
    refine ⟨rfl, .slice (some ⟨g, 0, none⟩) 0 cap, ⟨(blk_set (blk_set H.out.blk _) _).trans rfl, ?_, hap, H.out.most_le, H.out.spent_le, by simp, H.out.err_ge⟩, ((Onl.refl _ _ _).setCell _ _).setCell _ _, Nxt.refl _ _⟩
    refine ownsRow_setCell_other (ownsRow_setCell_other ⟨by simp [bv], .inr ⟨g, cap, cur, rfl, Nat.zero_le _, HB.out, Nat.zero_le _, HC.out, HS.out, by simp [bv]⟩⟩ hap _) hap _
end Go.Proofs.YtcbfhlnnfnpkdaaGreatDoor
