/- Octets that wait: what a queue keeps; New, Len, Most, Room, parts (layer 3). -/
import Derived.Test.YtpgnekejemockaaQuc
import Derived.Test.YtpgnekejemockaaProg
import Derived.Laws.CopyOwn
import Derived.Lib.BufferWrite
import Derived.Laws.NewBlocks
import Derived.IntWalk
namespace Go.Proofs.Ytpgnekejemockaa
open Go.RowKit
set_option linter.unusedVariables false
set_option linter.unusedSimpArgs false

/-- A queue lies in block b, its row in block g. -/
structure QAt (b g : Nat) (R : List UInt8) (a n : Nat) (w : World) : Prop where
  blk : w.heap[b]? = some (.cells #[.slice (some ⟨g, 0, none⟩) R.length R.length, .int .i64 a, .int .i64 n] 126 (0, 0))
  row : w.heap[g]? = some (.cells (bv R).toArray 5 (0, 0))
  apart : g ≠ b
  le : n ≤ R.length
  lt : a < R.length ∨ (a = 0 ∧ R.length = 0)
  small : R.length ≤ 65536
structure QF (b g : Nat) (R : List UInt8) (a n : Nat) (w : World) : Prop where
  c0 : w.cell? ⟨b, 0, none⟩ = some (.slice (some ⟨g, 0, none⟩) R.length R.length)
  c1 : w.cell? ⟨b, 1, none⟩ = some (.int .i64 a)
  c2 : w.cell? ⟨b, 2, none⟩ = some (.int .i64 n)
  f1 : w.frozen? ⟨b, 1, none⟩ = false
  f2 : w.frozen? ⟨b, 2, none⟩ = false
theorem QAt.facts {b g : Nat} {R : List UInt8} {a n : Nat} {w : World} (h : QAt b g R a n w) : QF b g R a n w :=
  ⟨blk_cell h.blk rfl, blk_cell h.blk rfl, blk_cell h.blk rfl, blk_free h.blk, blk_free h.blk⟩
theorem QAt.kept {b g : Nat} {R : List UInt8} {a n : Nat} {w w' : World} (h : QAt b g R a n w) (hb : ∀ k, k < w.heap.size → (k = b ∨ k = g) → w'.heap[k]? = w.heap[k]?) : QAt b g R a n w' :=
  ⟨(hb b (blk_lt h.blk) (.inl rfl)).trans h.blk, (hb g (blk_lt h.row) (.inr rfl)).trans h.row, h.apart, h.le, h.lt, h.small⟩
theorem QAt.below {b g : Nat} {R : List UInt8} {a n : Nat} {w w' : World} (h : QAt b g R a n w) (hb : Below w.heap.size w w') : QAt b g R a n w' := h.kept fun k hk _ => hb.block k hk
theorem QAt.drewN {b g : Nat} {R : List UInt8} {a n : Nat} {w : World} (h : QAt b g R a n w) (m : Nat) : QAt b g R a n (w.drewN m) := h.kept fun _ _ _ => rfl

theorem i64nq {a b : Int} (h : a ≠ b) : (a == b) = false := by simp [h]
theorem qret {a b : Int} (h : a = b) : Ending.returned (.int .i64 a) = .returned (.int .i64 b) := by rw [h]
theorem qlen_any (b g : Nat) (R : List UInt8) (a n : Nat) (w : World) (h : QAt b g R a n w) :
    Calls Try.prog 70 #[.pointer (some ⟨b, 0, none⟩)] w fun e w' => e = .returned (.int .i64 n) ∧ w = w' := by
  obtain ⟨c0, c1, c2, f1, f2⟩ := h.facts
  clear h
  go_enter Try.func70, Try.ntmps70
  go_wp2_with fail
  go_ret
  exact ⟨rfl, rfl⟩
theorem qlen_none (w : World) :
    Calls Try.prog 70 #[.pointer none] w fun e w' => e = .returned (.int .i64 0) ∧ w = w' := by
  go_enter Try.func70, Try.ntmps70
  go_wp2_with fail
  go_ret
  exact ⟨rfl, rfl⟩
theorem qmost_any (b g : Nat) (R : List UInt8) (a n : Nat) (w : World) (h : QAt b g R a n w) :
    Calls Try.prog 123 #[.pointer (some ⟨b, 0, none⟩)] w fun e w' => e = .returned (.int .i64 R.length) ∧ w = w' := by
  obtain ⟨c0, c1, c2, f1, f2⟩ := h.facts
  clear h
  go_enter Try.func123, Try.ntmps123
  go_wp2_with fail
  go_ret
  exact ⟨rfl, rfl⟩
theorem qmost_none (w : World) :
    Calls Try.prog 123 #[.pointer none] w fun e w' => e = .returned (.int .i64 0) ∧ w = w' := by
  go_enter Try.func123, Try.ntmps123
  go_wp2_with fail
  go_ret
  exact ⟨rfl, rfl⟩
theorem qroom_any (b g : Nat) (R : List UInt8) (a n : Nat) (w : World) (h : QAt b g R a n w) :
    Calls Try.prog 121 #[.pointer (some ⟨b, 0, none⟩)] w fun e w' => e = .returned (.int .i64 ((R.length - n : Nat) : Int)) ∧ w = w' := by
  have H := Kp.mk h
  have hle := h.le
  have hsm := h.small
  clear h
  go_enter Try.func121, Try.ntmps121
  go_wp2_with fail
  refine (qmost_any b g R a n _ H.out).mono ?_
  rintro e w1 ⟨rfl, rfl⟩
  go_wp2_with fail
  refine (qlen_any b g R a n _ H.out).mono ?_
  rintro e w1 ⟨rfl, rfl⟩
  go_wp2_with fail
  go_ret
  exact ⟨qret (by omega), rfl⟩
theorem qroom_none (w : World) :
    Calls Try.prog 121 #[.pointer none] w fun e w' => e = .returned (.int .i64 0) ∧ w = w' := by
  go_enter Try.func121, Try.ntmps121
  go_wp2_with fail
  refine (qmost_none _).mono ?_
  rintro e w1 ⟨rfl, rfl⟩
  go_wp2_with fail
  refine (qlen_none _).mono ?_
  rintro e w1 ⟨rfl, rfl⟩
  go_wp2_with fail
  go_ret
  exact ⟨rfl, rfl⟩
theorem qnew_no (m : Int) (w : World) (h : m < 0 ∨ 65536 < m) :
    Calls Try.prog 56 #[.int .i64 m] w fun e w' => e = .returned (.pointer none) ∧ w = w' := by
  rcases h with h | h
  · go_enter Try.func56, Try.ntmps56
    go_wp2_with fail
    go_ret
    exact ⟨rfl, rfl⟩
  · have h' : ¬ m < 0 := by omega
    go_enter Try.func56, Try.ntmps56
    go_wp2_with fail
    go_ret
    exact ⟨rfl, rfl⟩
theorem Try.infoQ : (Try.prog.info? 5).map (fun i => (i.zero, i.size, i.bytes)) = some (some (.int .u8 0), 1, 1) := by kernel_rfl
set_option maxRecDepth 100000 in
set_option maxHeartbeats 1000000 in
theorem qnew_yes (m : Nat) (w : World) (h : m ≤ 65536) :
    Calls Try.prog 56 #[.int .i64 m] w fun e w' => e = .returned (.pointer (some ⟨w.heap.size + 1, 0, none⟩)) ∧ QAt (w.heap.size + 1) w.heap.size (List.replicate m 0) 0 0 w' ∧ Below w.heap.size w w' := by
  have hmk := make_u8 (P := Try.prog) w 91 5 Try.underlying91 Try.infoQ m (by omega)
  have HR := Kp.mk (show (w.alloc (.cells (bv (List.replicate m 0)).toArray 5)).heap[w.heap.size]? = some (.cells (bv (List.replicate m 0)).toArray 5 (0, 0)) from heap_alloc_new w _)
  generalize hrow : (bv (List.replicate m 0)).toArray = row at *
  have HRW := Kp.mk hrow
  clear hrow
  go_enter Try.func56, Try.ntmps56
  go_wp2_with fail
  go_ret
  refine ⟨rfl, ⟨?_, ?_, by omega, by simp, ?_, by simp; omega⟩, ((Below.refl _ _).alloc (Nat.le_refl _) _).alloc (by simp) _⟩
  · have h9 := heap_alloc_new (w.alloc (.cells row 5)) (.cells #[.slice (some ⟨w.heap.size, 0, none⟩) m m, .int .i64 0, .int .i64 0] 126)
    simp only [World.size_alloc] at h9
    rw [List.length_replicate]
    exact h9
  · rw [HRW.out]
    exact blk_alloc HR.out
  · by_cases hm : m = 0
    · right; simp [hm]
    · left; simp; omega
theorem imod {x M : Nat} : ((x : Int)).tmod (M : Int) = ((x % M : Nat) : Int) := by
  rw [Int.tmod_eq_emod_of_nonneg (by omega)]; exact (Int.natCast_emod x M).symm
set_option maxRecDepth 100000 in
set_option maxHeartbeats 1000000 in
theorem qparts_any (b g : Nat) (R : List UInt8) (a n : Nat) (af m f m1 r1 : Nat) (w : World) (h : QAt b g R a n w) (hM : 0 < R.length) (haf : af ≤ R.length) (hm : m ≤ R.length) (hm0 : 0 < m)
    (hf : f = (a + af) % R.length) (hm1 : m1 = min m (R.length - f)) (hr1 : r1 = m - m1) :
    Calls Try.prog 96 #[.pointer (some ⟨b, 0, none⟩), .int .i64 af, .int .i64 m] w fun e w' =>
      e = .returned (.tuple #[.slice (some ⟨g, f, none⟩) m1 m1, .slice (some ⟨g, 0, none⟩) r1 r1]) ∧ ∃ k, w' = w.drewN k := by
  obtain ⟨c0, c1, c2, f1, f2⟩ := h.facts
  have hsm := h.small
  have hal : a < R.length := by rcases h.lt with h | ⟨_, h⟩ <;> omega
  clear h
  have hfl : f < R.length := by rw [hf]; exact Nat.mod_lt _ hM
  have HMOD := Kp.mk (show ((a : Int) + (af : Int)) % (R.length : Int) = (f : Int) by rw [hf, ← Int.natCast_add]; exact (Int.natCast_emod _ _).symm)
  have e2 : ((R.length : Int) == 0) = false := i64nq (by omega)
  clear hf
  by_cases hfm : f + m ≤ R.length
  · obtain rfl : m1 = m := by omega
    obtain rfl : r1 = 0 := by omega
    clear hm1 hr1
    go_enter Try.func96, Try.ntmps96
    go_wp2_with fail
    go_quiet (fail)
    rw [HMOD.out]
    go_wp2_with fail
    go_quiet (fail)
    go_wp2_with fail
    go_ret2
    refine ⟨?_, _, World.drewN_drewN _ _ _⟩
    show Ending.returned (.tuple #[.slice (some ⟨g, f, none⟩) (f + m1 - f) (f + m1 - f), .slice (some ⟨g, 0, none⟩) (m1 - (f + m1 - f)) (m1 - (f + m1 - f))]) = _
    rw [show f + m1 - f = m1 by omega, Nat.sub_self]
  · obtain rfl : m1 = R.length - f := by omega
    obtain rfl : r1 = m - (R.length - f) := by omega
    clear hm1 hr1
    go_enter Try.func96, Try.ntmps96
    go_wp2_with fail
    go_quiet (fail)
    rw [HMOD.out]
    go_wp2_with fail
    go_quiet (fail)
    go_wp2_with fail
    go_ret2
    exact ⟨rfl, _, World.drewN_drewN _ _ _⟩
/-- Whose row is only written. -/
theorem QAt.onl {b g : Nat} {R R' : List UInt8} {a n a' n' : Nat} {w w' : World} (h : QAt b g R a n w) (hl : R'.length = R.length) (hn : n' ≤ R.length) (ha : a' < R.length) (h1 : w'.heap[b]? = some (.cells #[.slice (some ⟨g, 0, none⟩) R.length R.length, .int .i64 a', .int .i64 n'] 126 (0, 0))) (h2 : w'.heap[g]? = some (.cells (bv R').toArray 5 (0, 0))) : QAt b g R' a' n' w' :=
  ⟨by rw [hl]; exact h1, h2, h.apart, by omega, by left; omega, by rw [hl]; exact h.small⟩
def QTo (b g : Nat) (R' : List UInt8) (a' n' : Nat) (w w' : World) : Prop := QAt b g R' a' n' w' ∧ Onl b (some g) w w'
theorem qput_zero (b g : Nat) (R : List UInt8) (a n : Nat) (s : ByteArray) (w : World) (h : QAt b g R a n w) (hs : s.size ≤ 1000000) (hz : min s.size (R.length - n) = 0) :
    Calls Try.prog 115 #[.pointer (some ⟨b, 0, none⟩), .string s] w fun e w' => e = .returned (.int .i64 0) ∧ w = w' := by
  have H := Kp.mk h
  have hle := h.le
  have hsm := h.small
  clear h
  by_cases h1 : R.length - n < s.size
  · have h2 : R.length - n = 0 := by omega
    go_enter Try.func115, Try.ntmps115
    go_wp2_with fail
    refine (qroom_any b g R a n _ H.out).mono ?_
    rintro e w1 ⟨rfl, rfl⟩
    rw [h2]
    rw [h2] at h1
    go_wp2_with fail
    go_ret
    exact ⟨rfl, rfl⟩
  · have h2 : s.size = 0 := by omega
    go_enter Try.func115, Try.ntmps115
    go_wp2_with fail
    refine (qroom_any b g R a n _ H.out).mono ?_
    rintro e w1 ⟨rfl, rfl⟩
    go_wp2_with fail
    go_ret
    exact ⟨rfl, rfl⟩
end Go.Proofs.Ytpgnekejemockaa
