/- Steps of scripts (layer 44): the law ActTells. -/
import Derived.Test.YtgogoncpnfojkaaAcv
import Derived.Deep.QuietTactic
import Derived.Deep.RegionWith
namespace Go.Proofs.Ytgogoncpnfojkaa
open Go.RowKit
set_option linter.unusedVariables false
set_option linter.unusedSimpArgs false

@[go_sem] theorem as_read (v : Value) (w : World) : (Instr.typeAssert (.iface 173 v) 89 173 true).run Try.prog w = .ok (.tuple #[v, .bool true]) w := by kernel_rfl

set_option maxRecDepth 100000 in
set_option maxHeartbeats 2000000 in
theorem lives44_any (w : World) :
    Calls Try.prog 56 #[] w fun e w' => e = .returned (.bool true) ∧ Below w.heap.size w w' := by
  go_enter Try.func56, Try.ntmps56
  go_wp2_with fail
  refine (aof4 0 1 5 ⟨#[]⟩ _ (by decide)).mono ?_
  rintro e w1 ⟨rfl, hb1⟩
  go_wp2_with fail
  refine (aword_any _ _).mono ?_
  rintro e w2 ⟨rfl, hb2⟩
  go_wp2_with fail
  go_ret
  exact ⟨bret (by decide +kernel), by first | exact below_thnA (bal hb1 _) hb2 | exact below_thnA (below_thnA (bal (Below.refl _ _) _) hb1) hb2 | exact below_thnA (bal (below_thnA (Below.refl _ _) hb1) _) hb2 | exact below_thnA hb1 hb2⟩
end Go.Proofs.Ytgogoncpnfojkaa
