/- Steps of scripts (layer 44): the law ActTells, whole. -/
import Derived.Test.YtkapaglbdehhnaaAcxb
import Derived.Test.YtkapaglbdehhnaaAcxc
import Derived.Test.YtkapaglbdehhnaaAcxd
namespace Go.Proofs.Ytkapaglbdehhnaa
open Go.RowKit
set_option linter.unusedVariables false

theorem sz_nil {t : ByteArray} (h : (t.size : Int) = 0) : t = ⟨#[]⟩ := by
  cases t with
  | mk d =>
    have h2 : d.size = 0 := by have : (d.size : Int) = 0 := h; omega
    simp at h2; subst h2; rfl
theorem atells_walk (op c o n : Int) (t : ByteArray) (p : Int) (w : World) :
    Calls Try.prog 8 #[.agg #[.int .i64 op, .int .i64 c, .int .i64 o, .int .i64 n, .string t], .int .i64 p] w fun e w' => e = .returned (.bool true) ∧ Below w.heap.size w w' := by
  have hT : ∃ T : ByteArray, (t.size ≤ 6000 ∧ T = t) ∨ (¬ t.size ≤ 6000 ∧ T = t.extract 0 6000) := by
    by_cases h : t.size ≤ 6000
    · exact ⟨t, .inl ⟨h, rfl⟩⟩
    · exact ⟨_, .inr ⟨h, rfl⟩⟩
  obtain ⟨T, ht⟩ := hT
  cases hr : rightB op c o n T.size
  · exact atells_no op c o n p t T w ht hr
  · have hb := (rightB_iff op c o n T.size).1 hr
    obtain ⟨⟨h1, h2⟩, hc, ho, hn, hk⟩ := hb
    have F : cB 6 = 0 ∧ oB 1 = 0 ∧ oB 6 = 0 ∧ oB 7 = 0 ∧ nB 1 = 0 ∧ nB 2 = 0 ∧ nB 3 = 0 ∧ nB 7 = 0 ∧ tB 1 = 0 ∧ tB 3 = 0 ∧ tB 4 = 0 ∧ tB 5 = 0 ∧ tB 6 = 0 ∧ tB 7 = 0 := by decide
    have hw : op = 1 ∨ op = 2 ∨ op = 3 ∨ op = 4 ∨ op = 5 ∨ op = 6 ∨ op = 7 := by omega
    rcases hw with rfl | rfl | rfl | rfl | rfl | rfl | rfl
    · obtain rfl : o = 0 := by omega
      obtain rfl : n = 0 := by omega
      obtain rfl := sz_nil (t := T) (by omega)
      exact atells1 c p t w ht hr
    · obtain rfl : n = 0 := by omega
      exact atells2 c o p t T w ht hr
    · obtain rfl : n = 0 := by omega
      obtain rfl := sz_nil (t := T) (by omega)
      exact atells3 c o p t w ht hr
    · obtain rfl := sz_nil (t := T) (by omega)
      exact atells4 c o n p t w ht hr
    · obtain rfl := sz_nil (t := T) (by omega)
      exact atells5 c o n p t w ht hr
    · obtain rfl : c = 0 := by omega
      obtain rfl : o = 0 := by omega
      obtain rfl := sz_nil (t := T) (by omega)
      exact atells6 n p t w ht hr
    · obtain rfl : o = 0 := by omega
      obtain rfl : n = 0 := by omega
      obtain rfl := sz_nil (t := T) (by omega)
      exact atells7 c p t w ht hr
end Go.Proofs.Ytkapaglbdehhnaa
