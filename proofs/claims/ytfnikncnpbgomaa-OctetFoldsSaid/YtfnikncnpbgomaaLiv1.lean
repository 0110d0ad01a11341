/- Layer 1: the document's examples hold. -/
import Derived.Test.YtfnikncnpbgomaaTrim
namespace Go.Proofs.Ytfnikncnpbgomaa
open Go.RowKit
set_option linter.unusedVariables false
set_option linter.unusedSimpArgs false

theorem ex1_trim : trimB ⟨#[32, 97, 9]⟩ = ⟨#[97]⟩ := by decide +kernel
theorem ex1_fold : foldB ⟨#[75, 101, 101, 112, 45, 65, 108, 105, 118, 101]⟩ ⟨#[107, 101, 101, 112, 45, 97, 108, 105, 118, 101]⟩ = true := by decide +kernel
theorem ex1_tok : tokenB ⟨#[97, 45, 98]⟩ = true := by decide +kernel
theorem ex1_tok2 : tokenB ⟨#[97, 32, 98]⟩ = false := by decide +kernel
theorem ex1_low : lowB ⟨#[97, 66]⟩ = ⟨#[97, 98]⟩ := by decide +kernel
theorem ex1_vis : visibleB ⟨#[97, 47, 98]⟩ = true := by decide +kernel

set_option maxHeartbeats 400000 in
theorem lives1_any (w : World) :
    Calls Try.prog 16 #[] w fun e w' => e = .returned (.bool true) ∧ Below w.heap.size w w' := by
  go_enter Try.func16, Try.ntmps16
  go_wp2_with fail
  refine (oct_trim_any _ _ (by decide)).mono ?_
  rintro e w1 ⟨rfl, hb1⟩
  rw [ex1_trim]
  go_wp2_with fail
  refine (oct_fold_any _ _ _ (by decide) (by decide)).mono ?_
  rintro e w2 ⟨rfl, hb2⟩
  rw [ex1_fold]
  go_wp2_with fail
  refine (oct_token_any _ _ (by decide)).mono ?_
  rintro e w3 ⟨rfl, hb3⟩
  rw [ex1_tok]
  go_wp2_with fail
  refine (oct_token_any _ _ (by decide)).mono ?_
  rintro e w4 ⟨rfl, hb4⟩
  rw [ex1_tok2]
  go_wp2_with fail
  refine (oct_lower_any _ _ (by decide)).mono ?_
  rintro e w5 ⟨rfl, hb5⟩
  rw [ex1_low]
  go_wp2_with fail
  refine (oct_visible_any _ _ (by decide)).mono ?_
  rintro e w6 ⟨rfl, hb6⟩
  rw [ex1_vis]
  go_wp2_with fail
  go_ret
  exact ⟨rfl, below_thn (below_thn (below_thn (below_thn (below_thn hb1 hb2) hb3) hb4) hb5) hb6⟩
end Go.Proofs.Ytfnikncnpbgomaa
