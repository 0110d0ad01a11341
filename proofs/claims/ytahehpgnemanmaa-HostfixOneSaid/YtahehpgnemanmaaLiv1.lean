/- Layer 1: the document's examples hold. -/
import Derived.Test.YtahehpgnemanmaaTrim
namespace Go.Proofs.Ytahehpgnemanmaa
open Go.RowKit
set_option linter.unusedVariables false
set_option linter.unusedSimpArgs false

theorem ex1_trim : trimB ⟨#[32, 97, 9]⟩ = ⟨#[97]⟩ := by decide +kernel
theorem ex1_fold : foldB ⟨#[75, 101, 101, 112, 45, 65, 108, 105, 118, 101]⟩ ⟨#[107, 101, 101, 112, 45, 97, 108, 105, 118, 101]⟩ = true := by decide +kernel
theorem ex1_tok : tokenB ⟨#[97, 45, 98]⟩ = true := by decide +kernel
theorem ex1_tok2 : tokenB ⟨#[97, 32, 98]⟩ = false := by decide +kernel
theorem ex1_low : lowB ⟨#[97, 66]⟩ = ⟨#[97, 98]⟩ := by decide +kernel
theorem ex1_vis : visibleB ⟨#[97, 47, 98]⟩ = true := by decide +kernel

end Go.Proofs.Ytahehpgnemanmaa
