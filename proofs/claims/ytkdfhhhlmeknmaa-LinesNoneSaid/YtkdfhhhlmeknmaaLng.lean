/- Lines that are taken out of octets: the document's example; the laws LinesNone, LinesFeed, LinesCuts (layer 16). -/
import Derived.Test.YtkdfhhhlmeknmaaLnf
namespace Go.Proofs.Ytkdfhhhlmeknmaa
open Go.RowKit
set_option linter.unusedVariables false
set_option linter.unusedSimpArgs false

theorem lin_e1 : runS 100 ls0 (⟨#[97, 98, 13, 10, 99]⟩ : ByteArray).data.toList = (4, ⟨4, [97, 98], false, true, 0⟩) := by rfl
theorem lin_e2 : runS 100 ⟨4, [], false, false, 0⟩ (⟨#[99, 10]⟩ : ByteArray).data.toList = (1, ⟨5, [99], false, false, 8⟩) := by rfl
set_option maxRecDepth 100000 in
set_option maxHeartbeats 2000000 in
theorem lives16_any (w : World) :
    Calls Try.prog 17 #[] w fun e w' => e = .returned (.bool true) ∧ Below w.heap.size w w' := by
  have E1 := Kp.mk lin_e1
  have E2 := Kp.mk lin_e2
  go_enter Try.func17, Try.ntmps17
  go_wp2_with fail
  refine (new_yes 100 _ (by omega)).mono ?_
  rintro e w1 ⟨rfl, hl1, hz1, hb1⟩
  have HL1 := Kp.mk hl1
  have HB1 := Kp.mk hb1
  clear hl1 hz1 hb1
  go_wp2_with fail
  refine (new_no (-1) _ (by omega)).mono ?_
  rintro e w2 ⟨rfl, hb2⟩
  have HL2 := Kp.mk (HL1.out.below hb2)
  have HB2 := Kp.mk (below_thn HB1.out hb2)
  clear hb2
  go_wp2_with fail
  refine (feed_any ⟨#[97, 98, 13, 10, 99]⟩ w.heap.size 100 ls0 _ _ (by decide) HL2.out).mono ?_
  rintro e w3 ⟨rfl, hto⟩
  rw [E1.out] at hto ⊢
  obtain ⟨tv3, hl3, ho3, hn3⟩ := hto
  have HL3 := Kp.mk hl3
  have HO3 := Kp.mk ho3
  have HN3 := Kp.mk hn3
  clear hl3 ho3 hn3
  go_wp2_with fail
  refine (line_yes w.heap.size 100 _ _ _ HL3.out rfl).mono ?_
  rintro e w4 ⟨rfl, hto⟩
  obtain ⟨tv4, hl4, ho4, hn4⟩ := hto
  have HL4 := Kp.mk hl4
  have HO4 := Kp.mk (HO3.out.trans HN3.out ho4)
  have HN4 := Kp.mk (HN3.out.trans HO3.out.size hn4)
  clear hl4 ho4 hn4
  go_wp2_with fail
  refine (feed_any ⟨#[99, 10]⟩ w.heap.size 100 ⟨4, [], false, false, 0⟩ _ _ (by decide) HL4.out).mono ?_
  rintro e w5 ⟨rfl, hto⟩
  rw [E2.out] at hto ⊢
  obtain ⟨tv5, hl5, ho5, hn5⟩ := hto
  have HL5 := Kp.mk hl5
  have HO5 := Kp.mk (HO4.out.trans HN4.out ho5)
  clear hl5 ho5 hn5
  go_wp2_with fail
  refine (spent_any w.heap.size 100 _ _ _ HL5.out).mono ?_
  rintro e w6 ⟨rfl, rfl⟩
  go_wp2_with fail
  go_ret
  exact ⟨rfl, HB2.out.trans (HO5.out.below (Nat.le_refl _) HB2.out.size (by intro k h; cases h))⟩

theorem plain16 (w : World) : LinAt w.heap.size 0 ls0 (.slice none 0 0) (w.alloc (.cells #[.int .i64 0, .int .i64 0, .slice none 0 0, .bool false, .bool false, .int .i64 0] 38)) := LinAt.fresh w 0 (by omega)
theorem run_zero (c : UInt8) (l : List UInt8) : runS 0 ls0 (c :: l) = (0, ⟨0, [], false, false, 4⟩) := by
  rw [run_no (by rfl)]; rfl
theorem run_emp (x : ByteArray) : runS 0 ls0 x.data.toList = (0, ⟨0, [], false, false, emE x⟩) := by
  cases h : x.data.toList with
  | nil =>
    have : x.size = 0 := by rw [ba_size', h]; rfl
    unfold emE; rw [if_pos this]; rfl
  | cons c l =>
    have : x.size ≠ 0 := by rw [ba_size', h]; simp
    unfold emE; rw [if_neg this, run_zero]
set_option maxRecDepth 100000 in
set_option maxHeartbeats 2000000 in
theorem linesnone_core (s x : ByteArray) (w : World) (hn : (s.size ≤ 100 ∧ x = s) ∨ (100 < s.size ∧ x = s.extract 0 100)) (hs : s.size ≤ maxLen) :
    Calls Try.prog 5 #[.string s] w fun e w' => e = .returned (.bool true) ∧ Below w.heap.size w w' := by
  have RE := Kp.mk (run_emp x)
  have PL := Kp.mk (plain16 w)
  unfold maxLen at hs
  have ee : ((⟨#[]⟩ : ByteArray) ++ ⟨#[]⟩).toList = [] := by rw [ByteArray.toList_eq, cat_app]; rfl
  have hxs : x.size ≤ 100 := by
    rcases hn with ⟨h1, rfl⟩ | ⟨h1, rfl⟩
    · exact h1
    · rw [ba_size', Lib.extract_data, List.length_take, List.length_drop]; omega
  rcases hn with ⟨h1, hx⟩ | ⟨h1, hx⟩
  all_goals
    have HX := Kp.mk hx
    clear hx
    go_enter Try.func5, Try.ntmps5
    go_wp2_with fail
    rw [← HX.out]
    refine (feed_none x _).mono ?_
    rintro e w1 ⟨rfl, hb1⟩
    have HL1 := Kp.mk (PL.out.below hb1)
    have HB1 := Kp.mk (((Below.refl w.heap.size w).alloc (Nat.le_refl _) (.cells #[.int .i64 0, .int .i64 0, .slice none 0 0, .bool false, .bool false, .int .i64 0] 38)).trans (hb1.mono (by simp)))
    clear hb1
    go_wp2_with fail
    refine (feed_any x w.heap.size 0 ls0 _ _ (by omega) HL1.out).mono ?_
    rintro e w2 ⟨rfl, hto⟩
    rw [RE.out] at hto ⊢
    obtain ⟨tv2, hl2, ho2, hn2⟩ := hto
    have HL2 := Kp.mk hl2
    have HB2 := Kp.mk (HB1.out.trans (ho2.below (Nat.le_refl _) HB1.out.size (by intro k h; cases h)))
    clear hl2 ho2 hn2
    by_cases hx0 : x.size = 0
    · have hxe := emp_yes hx0
      rw [show emE x = 0 by unfold emE; rw [if_pos hx0]] at *
      clear hx0
      go_wp2_with fail
      refine (line_none _).mono ?_
      rintro e w3 ⟨rfl, rfl⟩
      go_wp2_with fail
      refine (line_no w.heap.size 0 _ _ _ HL2.out rfl).mono ?_
      rintro e w3 ⟨rfl, rfl⟩
      go_wp2_with fail
      refine (whole_none _).mono ?_
      rintro e w3 ⟨rfl, rfl⟩
      go_wp2_with fail
      refine (whole_any w.heap.size 0 _ _ _ HL2.out).mono ?_
      rintro e w3 ⟨rfl, rfl⟩
      go_wp2_with fail
      refine (spent_none _).mono ?_
      rintro e w3 ⟨rfl, rfl⟩
      go_wp2_with fail
      refine (spent_any w.heap.size 0 _ _ _ HL2.out).mono ?_
      rintro e w3 ⟨rfl, rfl⟩
      go_wp2_with fail
      refine (within_none _).mono ?_
      rintro e w3 ⟨rfl, rfl⟩
      go_wp2_with fail
      refine (within_any w.heap.size 0 _ _ _ HL2.out rfl).mono ?_
      rintro e w3 ⟨rfl, rfl⟩
      rw [show ∀ er, wthS ⟨0, [], false, false, er⟩ = false from fun _ => rfl]
      go_wp2_with fail
      refine (lives16_any _).mono ?_
      rintro e w3 ⟨rfl, hb3⟩
      go_wp2_with fail
      go_ret
      exact ⟨rfl, HB2.out.trans (hb3.mono HB2.out.size)⟩
    · obtain ⟨hxe, hxe2⟩ := emp_no hx0
      rw [show emE x = 4 by unfold emE; rw [if_neg hx0]] at *
      clear hx0
      go_wp2_with fail
      refine (line_none _).mono ?_
      rintro e w3 ⟨rfl, rfl⟩
      go_wp2_with fail
      refine (line_no w.heap.size 0 _ _ _ HL2.out rfl).mono ?_
      rintro e w3 ⟨rfl, rfl⟩
      go_wp2_with fail
      refine (whole_none _).mono ?_
      rintro e w3 ⟨rfl, rfl⟩
      go_wp2_with fail
      refine (whole_any w.heap.size 0 _ _ _ HL2.out).mono ?_
      rintro e w3 ⟨rfl, rfl⟩
      go_wp2_with fail
      refine (spent_none _).mono ?_
      rintro e w3 ⟨rfl, rfl⟩
      go_wp2_with fail
      refine (spent_any w.heap.size 0 _ _ _ HL2.out).mono ?_
      rintro e w3 ⟨rfl, rfl⟩
      go_wp2_with fail
      refine (within_none _).mono ?_
      rintro e w3 ⟨rfl, rfl⟩
      go_wp2_with fail
      refine (within_any w.heap.size 0 _ _ _ HL2.out rfl).mono ?_
      rintro e w3 ⟨rfl, rfl⟩
      rw [show ∀ er, wthS ⟨0, [], false, false, er⟩ = false from fun _ => rfl]
      go_wp2_with fail
      refine (lives16_any _).mono ?_
      rintro e w3 ⟨rfl, hb3⟩
      go_wp2_with fail
      go_ret
      exact ⟨rfl, HB2.out.trans (hb3.mono HB2.out.size)⟩
theorem linesnone_walk (s : ByteArray) (w : World) (hs : s.size ≤ maxLen) :
    Calls Try.prog 5 #[.string s] w fun e w' => e = .returned (.bool true) ∧ Below w.heap.size w w' := by
  by_cases h : s.size ≤ 100
  · exact linesnone_core s s w (.inl ⟨h, rfl⟩) hs
  · exact linesnone_core s _ w (.inr ⟨by omega, rfl⟩) hs
end Go.Proofs.Ytkdfhhhlmeknmaa
