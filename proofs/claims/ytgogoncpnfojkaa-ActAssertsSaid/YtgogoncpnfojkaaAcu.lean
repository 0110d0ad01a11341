/- Steps of scripts (layer 44): the document's answer to which events may be. -/
import Derived.Test.YtgogoncpnfojkaaAct
import Derived.Laws.Closers25b
namespace Go.Proofs.Ytgogoncpnfojkaa
open Go.RowKit
set_option linter.unusedVariables false
set_option linter.unusedSimpArgs false

theorem tl_nil (t : ByteArray) : t.toList = [] ↔ t.size = 0 := by
  rw [toList_nil_iff_emptyBytes]
  constructor
  · rintro rfl; rfl
  · intro h
    have h2 : t.data.size = 0 := h
    cases t with
    | mk d => simp at h2; subst h2; rfl
theorem tl_emp (t : ByteArray) : t.toList.isEmpty = decide (t.size = 0) := by
  rw [Bool.eq_iff_iff]; simp [tl_nil]
theorem b_iff {a b : Bool} (h : a = true ↔ b = true) : a = b := by rwa [Bool.eq_iff_iff]
theorem rightB_iff (op c o n k : Int) : rightB op c o n k = true ↔ ((1 ≤ op ∧ op ≤ 7) ∧ (0 ≤ c ∧ c ≤ cB op) ∧ (0 ≤ o ∧ o ≤ oB op) ∧ (0 ≤ n ∧ n ≤ nB op) ∧ (0 ≤ k ∧ k ≤ tB op)) := by
  simp only [rightB, inR, Bool.and_eq_true, decide_eq_true_eq]

set_option maxRecDepth 100000 in
set_option maxHeartbeats 4000000 in
theorem rright_any (op c o n : Int) (t : ByteArray) (w : World) :
    Calls Try.prog 54 #[.agg #[.int .i64 op, .int .i64 c, .int .i64 o, .int .i64 n, .string t]] w fun e w' => e = .returned (.bool (rightB op c o n t.size)) ∧ Below w.heap.size w w' := by
  have HI := Lib.hid (rightB_iff op c o n t.size)
  generalize hR : rightB op c o n t.size = R
  rw [hR] at HI
  clear hR
  have hw : (op < 1 ∨ 7 < op) ∨ op = 1 ∨ op = 2 ∨ op = 3 ∨ op = 4 ∨ op = 5 ∨ op = 6 ∨ op = 7 := by omega
  rcases hw with h | h | h | h | h | h | h | h
  all_goals
    go_enter Try.func54, Try.ntmps54
  all_goals (try subst h)
  all_goals go_wp2
  all_goals go_ret
  all_goals refine ⟨bret (b_iff ?_), bal (bal (Below.refl _ _) _) _⟩
  all_goals rw [HI.out]
  all_goals clear HI
  all_goals simp only [cB, oB, nB, tB, tl_nil, tl_emp, Bool.and_eq_true, Bool.or_eq_true, decide_eq_true_eq, bne_iff_ne, ne_eq, bne_eq_false_iff_eq, beq_iff_eq, beq_eq_false_iff_ne] at *
  all_goals first | omega | (constructor <;> intro hh <;> simp_all <;> omega) | (simp at * <;> omega)
end Go.Proofs.Ytgogoncpnfojkaa
