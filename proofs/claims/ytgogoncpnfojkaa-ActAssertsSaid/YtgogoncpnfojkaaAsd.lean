/- Steps (layer 44): the law ActAsserts, whole. -/
import Derived.Test.YtgogoncpnfojkaaAsc
import Derived.Test.YtgogoncpnfojkaaAcv
namespace Go.Proofs.Ytgogoncpnfojkaa
open Go.RowKit
set_option linter.unusedVariables false

theorem sz_nilS {t : ByteArray} (h : (t.size : Int) = 0) : t = ⟨#[]⟩ := by
  cases t with
  | mk d =>
    have h2 : d.size = 0 := by have : (d.size : Int) = 0 := h; omega
    simp at h2; subst h2; rfl
theorem aasserts_walk (op c o n : Int) (t : ByteArray) (w : World) :
    Calls Try.prog 10 #[.agg #[.int .i64 op, .int .i64 c, .int .i64 o, .int .i64 n, .string t]] w fun e w' => e = .returned (.bool true) ∧ Below w.heap.size w w' := by
  have hT : ∃ T : ByteArray, (t.size ≤ 6000 ∧ T = t) ∨ (¬ t.size ≤ 6000 ∧ T = t.extract 0 6000) := by
    by_cases h : t.size ≤ 6000
    · exact ⟨t, .inl ⟨h, rfl⟩⟩
    · exact ⟨_, .inr ⟨h, rfl⟩⟩
  obtain ⟨T, ht⟩ := hT
  cases hr : rightB op c o n T.size
  · have hx := rright_any op c o n T
    rw [hr] at hx
    exact aa_none op c o n t T .nilIface w ht (fun w => aof_none op c o n T w hr) (fun w => sent_no .nilIface trivial w) (fun w => tried_pan .nilIface trivial w) conn_nil hx
  · have hx := rright_any op c o n T
    have hb := (rightB_iff op c o n T.size).1 hr
    rw [hr] at hx
    obtain ⟨⟨h1, h2⟩, hc, ho, hn, hk⟩ := hb
    have F : cB 6 = 0 ∧ oB 1 = 0 ∧ oB 6 = 0 ∧ oB 7 = 0 ∧ nB 1 = 0 ∧ nB 2 = 0 ∧ nB 3 = 0 ∧ nB 7 = 0 ∧ tB 1 = 0 ∧ tB 3 = 0 ∧ tB 4 = 0 ∧ tB 5 = 0 ∧ tB 6 = 0 ∧ tB 7 = 0 := by decide
    have hw : op = 1 ∨ op = 2 ∨ op = 3 ∨ op = 4 ∨ op = 5 ∨ op = 6 ∨ op = 7 := by omega
    rcases hw with rfl | rfl | rfl | rfl | rfl | rfl | rfl
    · obtain rfl : o = 0 := by omega
      obtain rfl : n = 0 := by omega
      obtain rfl := sz_nilS (t := T) (by omega)
      have ns : notSend (.iface 169 (.agg #[.int .i64 c])) := by show ¬ (169 : Nat) = 93; decide
      exact aa_right 1 c 0 0 t ⟨#[]⟩ _ w ht (by decide) (by decide) (fun w => aof1 c 0 0 ⟨#[]⟩ w hr) (fun w => sent_no _ ns w) (fun w => tried_pan _ ns w) (conn_open c 0 0 ⟨#[]⟩) hx
    · obtain rfl : n = 0 := by omega
      exact aa_want c o 0 t T (.iface 93 (.agg #[.int .i64 c, .int .i64 o, .string T])) w ht (fun w => aof2 c o 0 T w hr) (sent_yes c o T) (tried_send c o T) (conn_send c o 0 T) hx (must_send c o T)
    · obtain rfl : n = 0 := by omega
      obtain rfl := sz_nilS (t := T) (by omega)
      have ns : notSend (.iface 171 (.agg #[.int .i64 c, .int .i64 o])) := by show ¬ (171 : Nat) = 93; decide
      exact aa_right 3 c o 0 t ⟨#[]⟩ _ w ht (by decide) (by decide) (fun w => aof3 c o 0 ⟨#[]⟩ w hr) (fun w => sent_no _ ns w) (fun w => tried_pan _ ns w) (conn_end c o 0 ⟨#[]⟩) hx
    · obtain rfl := sz_nilS (t := T) (by omega)
      have ns : notSend (.iface 173 (.agg #[.int .i64 c, .int .i64 o, .int .i64 n])) := by show ¬ (173 : Nat) = 93; decide
      exact aa_right 4 c o n t ⟨#[]⟩ _ w ht (by decide) (by decide) (fun w => aof4 c o n ⟨#[]⟩ w hr) (fun w => sent_no _ ns w) (fun w => tried_pan _ ns w) (conn_read c o n ⟨#[]⟩) hx
    · obtain rfl := sz_nilS (t := T) (by omega)
      have ns : notSend (.iface 174 (.agg #[.int .i64 c, .int .i64 o, .int .i64 n])) := by show ¬ (174 : Nat) = 93; decide
      exact aa_right 5 c o n t ⟨#[]⟩ _ w ht (by decide) (by decide) (fun w => aof5 c o n ⟨#[]⟩ w hr) (fun w => sent_no _ ns w) (fun w => tried_pan _ ns w) (conn_grant c o n ⟨#[]⟩) hx
    · obtain rfl : c = 0 := by omega
      obtain rfl : o = 0 := by omega
      obtain rfl := sz_nilS (t := T) (by omega)
      have ns : notSend (.iface 176 (.agg #[.int .i64 n])) := by show ¬ (176 : Nat) = 93; decide
      exact aa_tick 0 0 n t ⟨#[]⟩ _ w ht (fun w => aof6 0 0 n ⟨#[]⟩ w hr) (fun w => sent_no _ ns w) (fun w => tried_pan _ ns w) (conn_tick 0 0 n ⟨#[]⟩) hx
    · obtain rfl : o = 0 := by omega
      obtain rfl : n = 0 := by omega
      obtain rfl := sz_nilS (t := T) (by omega)
      have ns : notSend (.iface 177 (.agg #[.int .i64 c])) := by show ¬ (177 : Nat) = 93; decide
      exact aa_right 7 c 0 0 t ⟨#[]⟩ _ w ht (by decide) (by decide) (fun w => aof7 c 0 0 ⟨#[]⟩ w hr) (fun w => sent_no _ ns w) (fun w => tried_pan _ ns w) (conn_serve c 0 0 ⟨#[]⟩) hx
end Go.Proofs.Ytgogoncpnfojkaa
