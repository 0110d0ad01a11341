/- Steps of scripts (layer 44): the law ActTells. -/
import Derived.Test.YtkapaglbdehhnaaAcv
import Derived.Deep.QuietTactic
import Derived.Deep.RegionWith
namespace Go.Proofs.Ytkapaglbdehhnaa
open Go.RowKit
set_option linter.unusedVariables false
set_option linter.unusedSimpArgs false

@[go_sem] theorem as_read (v : Value) (w : World) : (Instr.typeAssert (.iface 101 v) 82 101 true).run Try.prog w = .ok (.tuple #[v, .bool true]) w := by kernel_rfl

set_option maxRecDepth 100000 in
set_option maxHeartbeats 2000000 in
theorem lives44_any (w : World) :
    Calls Try.prog 47 #[] w fun e w' => e = .returned (.bool true) ∧ Below w.heap.size w w' := by
  go_enter Try.func47, Try.ntmps47
  go_wp2_with fail
  refine (aof4 0 1 5 ⟨#[]⟩ _ (by decide)).mono ?_
  rintro e w1 ⟨rfl, hb1⟩
  go_wp2_with fail
  refine (aword_any _ _).mono ?_
  rintro e w2 ⟨rfl, hb2⟩
  go_wp2_with fail
  go_ret
  exact ⟨bret (by decide +kernel), by first | exact below_thn (bal hb1 _) hb2 | exact below_thn (below_thn (bal (Below.refl _ _) _) hb1) hb2 | exact below_thn (bal (below_thn (Below.refl _ _) hb1) _) hb2 | exact below_thn hb1 hb2⟩
set_option maxRecDepth 100000 in
set_option maxHeartbeats 4000000 in
theorem atells_no (op c o n p : Int) (t T : ByteArray) (w : World) (ht : (t.size ≤ 6000 ∧ T = t) ∨ (¬ t.size ≤ 6000 ∧ T = t.extract 0 6000)) (hr : rightB op c o n T.size = false) :
    Calls Try.prog 8 #[.agg #[.int .i64 op, .int .i64 c, .int .i64 o, .int .i64 n, .string t], .int .i64 p] w fun e w' => e = .returned (.bool true) ∧ Below w.heap.size w w' := by
  have HR := Lib.hid hr
  have HB0 := Lib.hid (bal (Below.refl w.heap.size w) (.cells #[.int .i64 op, .int .i64 c, .int .i64 o, .int .i64 n, .string T] 80))
  clear hr
  rcases ht with ⟨ht, hT⟩ | ⟨ht, hT⟩
  all_goals
    have HT := Lib.hid hT
    clear hT
    go_enter Try.func8, Try.ntmps8
    go_wp2_with fail
    try rw [← HT.out]
    refine (aof_none _ _ _ _ _ _ HR.out).mono ?_
    rintro e w1 ⟨rfl, hb1⟩
    obtain ⟨hc1, hf1⟩ := bcell hb1
    have hz1 : w.heap.size < w1.heap.size := by have := hb1.size; simp at this; omega
    go_wp2_with fail
    try rw [← HT.out]
    refine (rright_any _ _ _ _ _ _).mono ?_
    rintro e w2 ⟨rfl, hb2⟩
    rw [HR.out]
    obtain ⟨hc2, hf2⟩ := bcell hb2
    have hz2 : w.heap.size < w2.heap.size := by have := hb2.size; (try simp at this); omega
    go_wp2_with fail
    try rw [← HT.out]
    refine (aright_any _ _ _ _ _ _).mono ?_
    rintro e w3 ⟨rfl, hb3⟩
    rw [HR.out]
    obtain ⟨hc3, hf3⟩ := bcell hb3
    have hz3 : w.heap.size < w3.heap.size := by have := hb3.size; (try simp at this); omega
    go_wp2_with fail
    refine (aword_any _ _).mono ?_
    rintro e w4 ⟨rfl, hb4⟩
    go_wp2_with fail
    refine (rword_any _ _).mono ?_
    rintro e w5 ⟨rfl, hb5⟩
    go_wp2_with fail
    first | go_region_with (go_at_call 47; refine (lives44_any _).mono ?_; rintro e w6 ⟨rfl, hb6⟩) | fail
    all_goals
      go_wp2_with fail
      go_ret
      exact ⟨rfl, below_thn (below_thn (below_thn (below_thn (below_thn (below_thn HB0.out hb1) hb2) hb3) hb4) hb5).drew hb6⟩
end Go.Proofs.Ytkapaglbdehhnaa
