/- Octets that wait, as what waits; a queue that is none, or plain; the document's example (layer 3). -/
import Derived.Test.YtkdfhhhlmeknmaaQud
namespace Go.Proofs.Ytkdfhhhlmeknmaa
open Go.RowKit
set_option linter.unusedVariables false
set_option linter.unusedSimpArgs false

def oB (l : List UInt8) : ByteArray := ⟨l.toArray⟩
theorem oB_list (l : List UInt8) : (oB l).data.toList = l := by simp [oB]
theorem oB_size (l : List UInt8) : (oB l).size = l.length := by rw [ba_size', oB_list]
/-- The queue in b, its row in g, with room for M, in which S waits. -/
def QS (b g M : Nat) (S : List UInt8) (w : World) : Prop := ∃ R a, QAt b g R a S.length w ∧ win R a S.length = S ∧ R.length = M
theorem QS.below {b g M : Nat} {S : List UInt8} {w w' : World} (h : QS b g M S w) (hb : Below w.heap.size w w') : QS b g M S w' := by
  obtain ⟨R, a, h3, h4, h5⟩ := h
  exact ⟨R, a, h3.below hb, h4, h5⟩
theorem QS.kept {b g M : Nat} {S : List UInt8} {w w' : World} (h : QS b g M S w) (hb : ∀ k, k < w.heap.size → (k = b ∨ k = g) → w'.heap[k]? = w.heap[k]?) : QS b g M S w' := by
  obtain ⟨R, a, h3, h4, h5⟩ := h
  exact ⟨R, a, h3.kept hb, h4, h5⟩
theorem QS.lt {b g M : Nat} {S : List UInt8} {w : World} (h : QS b g M S w) : b < w.heap.size ∧ g < w.heap.size := by
  obtain ⟨R, a, h3, _, _⟩ := h
  exact ⟨blk_lt h3.blk, blk_lt h3.row⟩
theorem QS.le {b g M : Nat} {S : List UInt8} {w : World} (h : QS b g M S w) : S.length ≤ M ∧ M ≤ 65536 := by
  obtain ⟨R, a, h, _, h5⟩ := h
  exact ⟨h5 ▸ h.le, h5 ▸ h.small⟩
theorem onl_own {B b g : Nat} {w w' : World} (h : Onl b (some g) w w') (hb : B ≤ b) (hg : B ≤ g) (hw : B ≤ w.heap.size) : Below B w w' := h.below hb hw (fun k e => by cases e; exact hg)
theorem q_len (b g M : Nat) (S : List UInt8) (w : World) (h : QS b g M S w) :
    Calls Try.prog 35 #[.pointer (some ⟨b, 0, none⟩)] w fun e w' => e = .returned (.int .i64 (S.length : Nat)) ∧ w = w' := by
  obtain ⟨R, a, h, _, _⟩ := h
  exact qlen_any b g R a _ w h
theorem q_room (b g M : Nat) (S : List UInt8) (w : World) (h : QS b g M S w) :
    Calls Try.prog 36 #[.pointer (some ⟨b, 0, none⟩)] w fun e w' => e = .returned (.int .i64 ((M - S.length : Nat) : Int)) ∧ w = w' := by
  obtain ⟨R, a, h, _, rfl⟩ := h
  exact qroom_any b g R a _ w h
theorem q_most (b g M : Nat) (S : List UInt8) (w : World) (h : QS b g M S w) :
    Calls Try.prog 37 #[.pointer (some ⟨b, 0, none⟩)] w fun e w' => e = .returned (.int .i64 (M : Int)) ∧ w = w' := by
  obtain ⟨R, a, h, _, rfl⟩ := h
  exact qmost_any b g R a _ w h
theorem q_put (b g M : Nat) (S : List UInt8) (s : ByteArray) (w : World) (h : QS b g M S w) (hs : s.size ≤ 1000000) :
    Calls Try.prog 29 #[.pointer (some ⟨b, 0, none⟩), .string s] w fun e w' => e = .returned (.int .i64 (min s.size (M - S.length) : Nat)) ∧ QS b g M (S ++ s.data.toList.take (min s.size (M - S.length))) w' ∧ Onl b (some g) w w' := by
  have h0 := h
  obtain ⟨R, a, h3, h4, rfl⟩ := h
  by_cases hz : min s.size (R.length - S.length) = 0
  · refine (qput_zero b g R a _ s w h3 hs hz).mono ?_
    rintro e w' ⟨rfl, rfl⟩
    rw [hz]
    exact ⟨rfl, by simpa using h0, Onl.refl _ _ _⟩
  · refine (qput_some b g R a _ _ _ _ s w h3 hs rfl (by omega) rfl rfl).mono ?_
    rintro e w' ⟨rfl, h5, h6⟩
    have hle := h3.le
    have hM : 0 < R.length := by omega
    have hal := h3.fits hM
    have hl : (s.data.toList.take (min s.size (R.length - S.length))).length = min s.size (R.length - S.length) := by rw [List.length_take, ← ba_size']; omega
    have hw := win_put (n := S.length) (c := s.data.toList.take (min s.size (R.length - S.length))) hal (by rw [hl]; omega) (by rw [hl]; omega)
    rw [hl] at hw
    have hlen := putR_len (R := R) (f := (a + S.length) % R.length) (c := s.data.toList.take (min s.size (R.length - S.length))) (Nat.mod_lt _ hM) (by rw [hl]; omega)
    refine ⟨rfl, ⟨_, a, ?_, ?_, hlen⟩, h6⟩
    · rw [List.length_append, hl]; exact h5
    · rw [List.length_append, hl, hw, h4]
theorem q_peek (b g M : Nat) (S : List UInt8) (m : Int) (w : World) (h : QS b g M S w) :
    Calls Try.prog 33 #[.pointer (some ⟨b, 0, none⟩), .int .i64 m] w fun e w' => e = .returned (.string (oB (S.take m.toNat))) ∧ Below w.heap.size w w' := by
  obtain ⟨R, a, h3, h4, rfl⟩ := h
  by_cases hz : m < 1 ∨ S.length = 0
  · refine (qpeek_zero b g R a _ m w h3 hz).mono ?_
    rintro e w' ⟨rfl, rfl⟩
    have : S.take m.toNat = [] := by
      rw [← List.length_eq_zero_iff, List.length_take]; omega
    rw [this]
    exact ⟨rfl, Below.refl _ _⟩
  · obtain ⟨u, hu⟩ : ∃ u : Nat, (u : Int) = min m (S.length : Int) := ⟨(min m (S.length : Int)).toNat, by omega⟩
    refine (qpeek_some b g R a _ u _ m w h3 hu (by omega) rfl).mono ?_
    rintro e w' ⟨rfl, hb⟩
    have : S.take m.toNat = win R a u := by
      rw [← win_take (n := S.length) (by omega), h4]
      by_cases hlt : m ≤ (S.length : Int)
      · congr 1; omega
      · rw [List.take_of_length_le (by omega), List.take_of_length_le (by omega)]
    rw [this]
    exact ⟨rfl, hb⟩
theorem q_take (b g M : Nat) (S : List UInt8) (m : Int) (w : World) (h : QS b g M S w) :
    Calls Try.prog 31 #[.pointer (some ⟨b, 0, none⟩), .int .i64 m] w fun e w' => e = .returned (.string (oB (S.take m.toNat))) ∧ QS b g M (S.drop m.toNat) w' ∧ Onl b (some g) w w' := by
  have h0 := h
  obtain ⟨R, a, h3, h4, rfl⟩ := h
  by_cases hz : m < 1 ∨ S.length = 0
  · refine (qtake_zero b g R a _ m w h3 hz).mono ?_
    rintro e w' ⟨rfl, rfl⟩
    have e1 : S.take m.toNat = [] := by
      rw [← List.length_eq_zero_iff, List.length_take]; omega
    have e2 : S.drop m.toNat = S := by
      rcases hz with hz | hz
      · rw [show m.toNat = 0 by omega]; rfl
      · rw [List.length_eq_zero_iff.1 hz]; simp
    rw [e1, e2]
    exact ⟨rfl, h0, Onl.refl _ _ _⟩
  · obtain ⟨u, hu⟩ : ∃ u : Nat, (u : Int) = min m (S.length : Int) := ⟨(min m (S.length : Int)).toNat, by omega⟩
    refine (qtake_some b g R a _ u m w h3 hu (by omega)).mono ?_
    rintro e w' ⟨rfl, hq, ho⟩
    have e1 : S.take m.toNat = win R a u := by
      rw [← win_take (n := S.length) (by omega), h4]
      by_cases hlt : m ≤ (S.length : Int)
      · congr 1; omega
      · rw [List.take_of_length_le (by omega), List.take_of_length_le (by omega)]
    have e2 : S.drop m.toNat = S.drop u := by
      by_cases hlt : m ≤ (S.length : Int)
      · congr 1; omega
      · rw [List.drop_of_length_le (by omega), List.drop_of_length_le (by omega)]
    have hM : 0 < R.length := by have := h3.le; omega
    have e3 := win_drop (R := R) (a := a) (n := S.length) (m := u) hM (by omega)
    rw [h4] at e3
    rw [e1, e2]
    refine ⟨rfl, ⟨R, (a + u) % R.length, ?_, ?_, rfl⟩, ho⟩
    · rw [List.length_drop]; exact hq
    · rw [List.length_drop]; exact e3
theorem q_new (m : Nat) (w : World) (h : m ≤ 65536) :
    Calls Try.prog 27 #[.int .i64 m] w fun e w' => e = .returned (.pointer (some ⟨w.heap.size + 1, 0, none⟩)) ∧ QS (w.heap.size + 1) w.heap.size m [] w' ∧ Below w.heap.size w w' := by
  refine (qnew_yes m w h).mono ?_
  rintro e w' ⟨rfl, h1, h2⟩
  exact ⟨rfl, ⟨_, _, h1, rfl, by simp⟩, h2⟩

/-! ### A plain one -/
structure PlainAt (b : Nat) (w : World) : Prop where
  blk : w.heap[b]? = some (.cells #[.slice none 0 0, .int .i64 0, .int .i64 0] 55 (0, 0))
theorem PlainAt.new (w : World) : PlainAt w.heap.size (w.alloc (.cells #[.slice none 0 0, .int .i64 0, .int .i64 0] 55)) := ⟨heap_alloc_new w _⟩
theorem pl_len (b : Nat) (w : World) (h : PlainAt b w) :
    Calls Try.prog 35 #[.pointer (some ⟨b, 0, none⟩)] w fun e w' => e = .returned (.int .i64 0) ∧ w = w' := by
  have c2 := blk_cell (i := 2) h.blk rfl
  clear h
  go_enter Try.func35, Try.ntmps35
  go_wp2_with fail
  go_ret
  exact ⟨rfl, rfl⟩
theorem pl_most (b : Nat) (w : World) (h : PlainAt b w) :
    Calls Try.prog 37 #[.pointer (some ⟨b, 0, none⟩)] w fun e w' => e = .returned (.int .i64 0) ∧ w = w' := by
  have c0 := blk_cell (i := 0) h.blk rfl
  clear h
  go_enter Try.func37, Try.ntmps37
  go_wp2_with fail
  go_ret
  exact ⟨rfl, rfl⟩
theorem pl_room (b : Nat) (w : World) (h : PlainAt b w) :
    Calls Try.prog 36 #[.pointer (some ⟨b, 0, none⟩)] w fun e w' => e = .returned (.int .i64 0) ∧ w = w' := by
  have H := Kp.mk h
  clear h
  go_enter Try.func36, Try.ntmps36
  go_wp2_with fail
  refine (pl_most b _ H.out).mono ?_
  rintro e w1 ⟨rfl, rfl⟩
  go_wp2_with fail
  refine (pl_len b _ H.out).mono ?_
  rintro e w1 ⟨rfl, rfl⟩
  go_wp2_with fail
  go_ret
  exact ⟨rfl, rfl⟩
theorem pl_put (b : Nat) (w : World) (h : PlainAt b w) :
    Calls Try.prog 29 #[.pointer (some ⟨b, 0, none⟩), .string ⟨#[97]⟩] w fun e w' => e = .returned (.int .i64 0) ∧ w = w' := by
  have H := Kp.mk h
  clear h
  have e1 : (⟨#[97]⟩ : ByteArray).size = 1 := rfl
  go_enter Try.func29, Try.ntmps29
  go_wp2_with fail
  refine (pl_room b _ H.out).mono ?_
  rintro e w1 ⟨rfl, rfl⟩
  go_wp2_with fail
  go_ret
  exact ⟨rfl, rfl⟩
theorem pn_put (w : World) :
    Calls Try.prog 29 #[.pointer none, .string ⟨#[97]⟩] w fun e w' => e = .returned (.int .i64 0) ∧ w = w' := by
  have e1 : (⟨#[97]⟩ : ByteArray).size = 1 := rfl
  go_enter Try.func29, Try.ntmps29
  go_wp2_with fail
  refine (qroom_none _).mono ?_
  rintro e w1 ⟨rfl, rfl⟩
  go_wp2_with fail
  go_ret
  exact ⟨rfl, rfl⟩
theorem pl_peek (b : Nat) (w : World) (h : PlainAt b w) :
    Calls Try.prog 33 #[.pointer (some ⟨b, 0, none⟩), .int .i64 5] w fun e w' => e = .returned (.string ⟨#[]⟩) ∧ w = w' := by
  have H := Kp.mk h
  clear h
  go_enter Try.func33, Try.ntmps33
  go_wp2_with fail
  refine (pl_len b _ H.out).mono ?_
  rintro e w1 ⟨rfl, rfl⟩
  go_wp2_with fail
  go_ret
  exact ⟨rfl, rfl⟩
theorem pl_take (b : Nat) (w : World) (h : PlainAt b w) :
    Calls Try.prog 31 #[.pointer (some ⟨b, 0, none⟩), .int .i64 5] w fun e w' => e = .returned (.string ⟨#[]⟩) ∧ w = w' := by
  have H := Kp.mk h
  clear h
  go_enter Try.func31, Try.ntmps31
  go_wp2_with fail
  refine (pl_peek b _ H.out).mono ?_
  rintro e w1 ⟨rfl, rfl⟩
  go_wp2_with fail
  go_ret
  exact ⟨rfl, rfl⟩
set_option maxRecDepth 100000 in
set_option maxHeartbeats 2000000 in
theorem lives3_any (w : World) :
    Calls Try.prog 28 #[] w fun e w' => e = .returned (.bool true) ∧ Below w.heap.size w w' := by
  go_enter Try.func28, Try.ntmps28
  go_wp2_with fail
  refine (q_new 3 _ (by omega)).mono ?_
  rintro e w1 ⟨rfl, h1, hb1⟩
  have H1 := Kp.mk h1
  have HB1 := Kp.mk hb1
  clear h1 hb1
  go_wp2_with fail
  refine (q_put (w.heap.size + 1) w.heap.size 3 [] ⟨#[97, 98, 99, 100]⟩ _ H1.out (by decide)).mono ?_
  rintro e w2 ⟨rfl, h2, hb2⟩
  have H2 := Kp.mk (show QS (w.heap.size + 1) w.heap.size 3 [97, 98, 99] w2 from h2)
  have HB2 := Kp.mk (HB1.out.trans (onl_own hb2 (by omega) (Nat.le_refl _) HB1.out.size))
  rw [show (min (⟨#[97, 98, 99, 100]⟩ : ByteArray).size (3 - ([] : List UInt8).length)) = 3 from rfl]
  clear h2 hb2
  go_wp2_with fail
  refine (q_take (w.heap.size + 1) w.heap.size 3 [97, 98, 99] 2 _ H2.out).mono ?_
  rintro e w3 ⟨rfl, h3, hb3⟩
  have H3 := Kp.mk (show QS (w.heap.size + 1) w.heap.size 3 [99] w3 from h3)
  have HB3 := Kp.mk (HB2.out.trans (onl_own hb3 (by omega) (Nat.le_refl _) HB2.out.size))
  rw [show oB (([97, 98, 99] : List UInt8).take (2 : Int).toNat) = ⟨#[97, 98]⟩ from rfl]
  clear h3 hb3
  go_wp2_with fail
  refine (q_put (w.heap.size + 1) w.heap.size 3 [99] ⟨#[120, 121]⟩ _ H3.out (by decide)).mono ?_
  rintro e w4 ⟨rfl, h4, hb4⟩
  have H4 := Kp.mk (show QS (w.heap.size + 1) w.heap.size 3 [99, 120, 121] w4 from h4)
  have HB4 := Kp.mk (HB3.out.trans (onl_own hb4 (by omega) (Nat.le_refl _) HB3.out.size))
  rw [show (min (⟨#[120, 121]⟩ : ByteArray).size (3 - ([99] : List UInt8).length)) = 2 from rfl]
  clear h4 hb4
  go_wp2_with fail
  refine (q_take (w.heap.size + 1) w.heap.size 3 [99, 120, 121] 9 _ H4.out).mono ?_
  rintro e w5 ⟨rfl, h5, hb5⟩
  have HB5 := Kp.mk (HB4.out.trans (onl_own hb5 (by omega) (Nat.le_refl _) HB4.out.size))
  rw [show oB (([99, 120, 121] : List UInt8).take (9 : Int).toNat) = ⟨#[99, 120, 121]⟩ from rfl]
  clear h5 hb5
  go_wp2_with fail
  refine (qnew_no (-1) _ (by omega)).mono ?_
  rintro e w6 ⟨rfl, rfl⟩
  go_wp2_with fail
  refine (qnew_no 65537 _ (by omega)).mono ?_
  rintro e w6 ⟨rfl, rfl⟩
  go_wp2_with fail
  go_ret
  exact ⟨rfl, HB5.out⟩
end Go.Proofs.Ytkdfhhhlmeknmaa
