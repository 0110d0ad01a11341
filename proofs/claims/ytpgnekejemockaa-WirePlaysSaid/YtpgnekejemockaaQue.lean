/- Octets that wait, as what waits; a queue that is none, or plain; the document's example (layer 3). -/
import Derived.Test.YtpgnekejemockaaQud
namespace Go.Proofs.Ytpgnekejemockaa
open Go.RowKit
set_option linter.unusedVariables false
set_option linter.unusedSimpArgs false

def oB (l : List UInt8) : ByteArray := ⟨l.toArray⟩
theorem oB_list (l : List UInt8) : (oB l).data.toList = l := by simp [oB]
theorem oB_size (l : List UInt8) : (oB l).size = l.length := by rw [ba_size', oB_list]
/-- The queue in b, its row in g, with room for M, in which S waits. -/
def QS (b g M : Nat) (S : List UInt8) (w : World) : Prop := ∃ R a, QAt b g R a S.length w ∧ win R a S.length = S ∧ R.length = M
theorem QS.below {b g M : Nat} {S : List UInt8} {w w' : World} (h : QS b g M S w) (hb : Below w.heap.size w w') : QS b g M S w' := by
  obtain ⟨R, a, h3, h4, h5⟩ := h
  exact ⟨R, a, h3.below hb, h4, h5⟩
theorem QS.kept {b g M : Nat} {S : List UInt8} {w w' : World} (h : QS b g M S w) (hb : ∀ k, k < w.heap.size → (k = b ∨ k = g) → w'.heap[k]? = w.heap[k]?) : QS b g M S w' := by
  obtain ⟨R, a, h3, h4, h5⟩ := h
  exact ⟨R, a, h3.kept hb, h4, h5⟩
theorem QS.lt {b g M : Nat} {S : List UInt8} {w : World} (h : QS b g M S w) : b < w.heap.size ∧ g < w.heap.size := by
  obtain ⟨R, a, h3, _, _⟩ := h
  exact ⟨blk_lt h3.blk, blk_lt h3.row⟩
theorem QS.le {b g M : Nat} {S : List UInt8} {w : World} (h : QS b g M S w) : S.length ≤ M ∧ M ≤ 65536 := by
  obtain ⟨R, a, h, _, h5⟩ := h
  exact ⟨h5 ▸ h.le, h5 ▸ h.small⟩
theorem onl_own {B b g : Nat} {w w' : World} (h : Onl b (some g) w w') (hb : B ≤ b) (hg : B ≤ g) (hw : B ≤ w.heap.size) : Below B w w' := h.below hb hw (fun k e => by cases e; exact hg)
theorem q_len (b g M : Nat) (S : List UInt8) (w : World) (h : QS b g M S w) :
    Calls Try.prog 70 #[.pointer (some ⟨b, 0, none⟩)] w fun e w' => e = .returned (.int .i64 (S.length : Nat)) ∧ w = w' := by
  obtain ⟨R, a, h, _, _⟩ := h
  exact qlen_any b g R a _ w h
theorem q_room (b g M : Nat) (S : List UInt8) (w : World) (h : QS b g M S w) :
    Calls Try.prog 121 #[.pointer (some ⟨b, 0, none⟩)] w fun e w' => e = .returned (.int .i64 ((M - S.length : Nat) : Int)) ∧ w = w' := by
  obtain ⟨R, a, h, _, rfl⟩ := h
  exact qroom_any b g R a _ w h
theorem q_most (b g M : Nat) (S : List UInt8) (w : World) (h : QS b g M S w) :
    Calls Try.prog 123 #[.pointer (some ⟨b, 0, none⟩)] w fun e w' => e = .returned (.int .i64 (M : Int)) ∧ w = w' := by
  obtain ⟨R, a, h, _, rfl⟩ := h
  exact qmost_any b g R a _ w h
theorem q_put (b g M : Nat) (S : List UInt8) (s : ByteArray) (w : World) (h : QS b g M S w) (hs : s.size ≤ 1000000) :
    Calls Try.prog 115 #[.pointer (some ⟨b, 0, none⟩), .string s] w fun e w' => e = .returned (.int .i64 (min s.size (M - S.length) : Nat)) ∧ QS b g M (S ++ s.data.toList.take (min s.size (M - S.length))) w' ∧ Onl b (some g) w w' := by
  have h0 := h
  obtain ⟨R, a, h3, h4, rfl⟩ := h
  by_cases hz : min s.size (R.length - S.length) = 0
  · refine (qput_zero b g R a _ s w h3 hs hz).mono ?_
    rintro e w' ⟨rfl, rfl⟩
    rw [hz]
    exact ⟨rfl, by simpa using h0, Onl.refl _ _ _⟩
  · refine (qput_some b g R a _ _ _ _ s w h3 hs rfl (by omega) rfl rfl).mono ?_
    rintro e w' ⟨rfl, h5, h6⟩
    have hle := h3.le
    have hM : 0 < R.length := by omega
    have hal := h3.fits hM
    have hl : (s.data.toList.take (min s.size (R.length - S.length))).length = min s.size (R.length - S.length) := by rw [List.length_take, ← ba_size']; omega
    have hw := win_put (n := S.length) (c := s.data.toList.take (min s.size (R.length - S.length))) hal (by rw [hl]; omega) (by rw [hl]; omega)
    rw [hl] at hw
    have hlen := putR_len (R := R) (f := (a + S.length) % R.length) (c := s.data.toList.take (min s.size (R.length - S.length))) (Nat.mod_lt _ hM) (by rw [hl]; omega)
    refine ⟨rfl, ⟨_, a, ?_, ?_, hlen⟩, h6⟩
    · rw [List.length_append, hl]; exact h5
    · rw [List.length_append, hl, hw, h4]
theorem q_peek (b g M : Nat) (S : List UInt8) (m : Int) (w : World) (h : QS b g M S w) :
    Calls Try.prog 69 #[.pointer (some ⟨b, 0, none⟩), .int .i64 m] w fun e w' => e = .returned (.string (oB (S.take m.toNat))) ∧ Below w.heap.size w w' := by
  obtain ⟨R, a, h3, h4, rfl⟩ := h
  by_cases hz : m < 1 ∨ S.length = 0
  · refine (qpeek_zero b g R a _ m w h3 hz).mono ?_
    rintro e w' ⟨rfl, rfl⟩
    have : S.take m.toNat = [] := by
      rw [← List.length_eq_zero_iff, List.length_take]; omega
    rw [this]
    exact ⟨rfl, Below.refl _ _⟩
  · obtain ⟨u, hu⟩ : ∃ u : Nat, (u : Int) = min m (S.length : Int) := ⟨(min m (S.length : Int)).toNat, by omega⟩
    refine (qpeek_some b g R a _ u _ m w h3 hu (by omega) rfl).mono ?_
    rintro e w' ⟨rfl, hb⟩
    have : S.take m.toNat = win R a u := by
      rw [← win_take (n := S.length) (by omega), h4]
      by_cases hlt : m ≤ (S.length : Int)
      · congr 1; omega
      · rw [List.take_of_length_le (by omega), List.take_of_length_le (by omega)]
    rw [this]
    exact ⟨rfl, hb⟩
theorem q_take (b g M : Nat) (S : List UInt8) (m : Int) (w : World) (h : QS b g M S w) :
    Calls Try.prog 95 #[.pointer (some ⟨b, 0, none⟩), .int .i64 m] w fun e w' => e = .returned (.string (oB (S.take m.toNat))) ∧ QS b g M (S.drop m.toNat) w' ∧ Onl b (some g) w w' := by
  have h0 := h
  obtain ⟨R, a, h3, h4, rfl⟩ := h
  by_cases hz : m < 1 ∨ S.length = 0
  · refine (qtake_zero b g R a _ m w h3 hz).mono ?_
    rintro e w' ⟨rfl, rfl⟩
    have e1 : S.take m.toNat = [] := by
      rw [← List.length_eq_zero_iff, List.length_take]; omega
    have e2 : S.drop m.toNat = S := by
      rcases hz with hz | hz
      · rw [show m.toNat = 0 by omega]; rfl
      · rw [List.length_eq_zero_iff.1 hz]; simp
    rw [e1, e2]
    exact ⟨rfl, h0, Onl.refl _ _ _⟩
  · obtain ⟨u, hu⟩ : ∃ u : Nat, (u : Int) = min m (S.length : Int) := ⟨(min m (S.length : Int)).toNat, by omega⟩
    refine (qtake_some b g R a _ u m w h3 hu (by omega)).mono ?_
    rintro e w' ⟨rfl, hq, ho⟩
    have e1 : S.take m.toNat = win R a u := by
      rw [← win_take (n := S.length) (by omega), h4]
      by_cases hlt : m ≤ (S.length : Int)
      · congr 1; omega
      · rw [List.take_of_length_le (by omega), List.take_of_length_le (by omega)]
    have e2 : S.drop m.toNat = S.drop u := by
      by_cases hlt : m ≤ (S.length : Int)
      · congr 1; omega
      · rw [List.drop_of_length_le (by omega), List.drop_of_length_le (by omega)]
    have hM : 0 < R.length := by have := h3.le; omega
    have e3 := win_drop (R := R) (a := a) (n := S.length) (m := u) hM (by omega)
    rw [h4] at e3
    rw [e1, e2]
    refine ⟨rfl, ⟨R, (a + u) % R.length, ?_, ?_, rfl⟩, ho⟩
    · rw [List.length_drop]; exact hq
    · rw [List.length_drop]; exact e3
theorem q_new (m : Nat) (w : World) (h : m ≤ 65536) :
    Calls Try.prog 56 #[.int .i64 m] w fun e w' => e = .returned (.pointer (some ⟨w.heap.size + 1, 0, none⟩)) ∧ QS (w.heap.size + 1) w.heap.size m [] w' ∧ Below w.heap.size w w' := by
  refine (qnew_yes m w h).mono ?_
  rintro e w' ⟨rfl, h1, h2⟩
  exact ⟨rfl, ⟨_, _, h1, rfl, by simp⟩, h2⟩

/-! ### A plain one -/
structure PlainAt (b : Nat) (w : World) : Prop where
  blk : w.heap[b]? = some (.cells #[.slice none 0 0, .int .i64 0, .int .i64 0] 126 (0, 0))
theorem PlainAt.new (w : World) : PlainAt w.heap.size (w.alloc (.cells #[.slice none 0 0, .int .i64 0, .int .i64 0] 126)) := ⟨heap_alloc_new w _⟩
theorem pl_len (b : Nat) (w : World) (h : PlainAt b w) :
    Calls Try.prog 70 #[.pointer (some ⟨b, 0, none⟩)] w fun e w' => e = .returned (.int .i64 0) ∧ w = w' := by
  have c2 := blk_cell (i := 2) h.blk rfl
  clear h
  go_enter Try.func70, Try.ntmps70
  go_wp2_with fail
  go_ret
  exact ⟨rfl, rfl⟩
theorem pl_most (b : Nat) (w : World) (h : PlainAt b w) :
    Calls Try.prog 123 #[.pointer (some ⟨b, 0, none⟩)] w fun e w' => e = .returned (.int .i64 0) ∧ w = w' := by
  have c0 := blk_cell (i := 0) h.blk rfl
  clear h
  go_enter Try.func123, Try.ntmps123
  go_wp2_with fail
  go_ret
  exact ⟨rfl, rfl⟩
theorem pl_room (b : Nat) (w : World) (h : PlainAt b w) :
    Calls Try.prog 121 #[.pointer (some ⟨b, 0, none⟩)] w fun e w' => e = .returned (.int .i64 0) ∧ w = w' := by
  have H := Kp.mk h
  clear h
  go_enter Try.func121, Try.ntmps121
  go_wp2_with fail
  refine (pl_most b _ H.out).mono ?_
  rintro e w1 ⟨rfl, rfl⟩
  go_wp2_with fail
  refine (pl_len b _ H.out).mono ?_
  rintro e w1 ⟨rfl, rfl⟩
  go_wp2_with fail
  go_ret
  exact ⟨rfl, rfl⟩
theorem pl_put (b : Nat) (w : World) (h : PlainAt b w) :
    Calls Try.prog 115 #[.pointer (some ⟨b, 0, none⟩), .string ⟨#[97]⟩] w fun e w' => e = .returned (.int .i64 0) ∧ w = w' := by
  have H := Kp.mk h
  clear h
  have e1 : (⟨#[97]⟩ : ByteArray).size = 1 := rfl
  go_enter Try.func115, Try.ntmps115
  go_wp2_with fail
  refine (pl_room b _ H.out).mono ?_
  rintro e w1 ⟨rfl, rfl⟩
  go_wp2_with fail
  go_ret
  exact ⟨rfl, rfl⟩
theorem pn_put (w : World) :
    Calls Try.prog 115 #[.pointer none, .string ⟨#[97]⟩] w fun e w' => e = .returned (.int .i64 0) ∧ w = w' := by
  have e1 : (⟨#[97]⟩ : ByteArray).size = 1 := rfl
  go_enter Try.func115, Try.ntmps115
  go_wp2_with fail
  refine (qroom_none _).mono ?_
  rintro e w1 ⟨rfl, rfl⟩
  go_wp2_with fail
  go_ret
  exact ⟨rfl, rfl⟩
theorem pl_peek (b : Nat) (w : World) (h : PlainAt b w) :
    Calls Try.prog 69 #[.pointer (some ⟨b, 0, none⟩), .int .i64 5] w fun e w' => e = .returned (.string ⟨#[]⟩) ∧ w = w' := by
  have H := Kp.mk h
  clear h
  go_enter Try.func69, Try.ntmps69
  go_wp2_with fail
  refine (pl_len b _ H.out).mono ?_
  rintro e w1 ⟨rfl, rfl⟩
  go_wp2_with fail
  go_ret
  exact ⟨rfl, rfl⟩
theorem pl_take (b : Nat) (w : World) (h : PlainAt b w) :
    Calls Try.prog 95 #[.pointer (some ⟨b, 0, none⟩), .int .i64 5] w fun e w' => e = .returned (.string ⟨#[]⟩) ∧ w = w' := by
  have H := Kp.mk h
  clear h
  go_enter Try.func95, Try.ntmps95
  go_wp2_with fail
  refine (pl_peek b _ H.out).mono ?_
  rintro e w1 ⟨rfl, rfl⟩
  go_wp2_with fail
  go_ret
  exact ⟨rfl, rfl⟩
end Go.Proofs.Ytpgnekejemockaa
