/- The calendar (layer 5): seconds and dates. -/
import Derived.Test.YtlpcjnjhpgddmaaCog
namespace Go.Proofs.Ytlpcjnjhpgddmaa
open Go.RowKit
set_option linter.unusedVariables false
set_option linter.unusedSimpArgs false

theorem bcell {W w1 : World} (hb : Below W.heap.size W w1) : (∀ b o, b < W.heap.size → w1.cell? ⟨b, o, none⟩ = W.cell? ⟨b, o, none⟩) ∧ (∀ b o, b < W.heap.size → w1.frozen? ⟨b, o, none⟩ = W.frozen? ⟨b, o, none⟩) :=
  ⟨fun b o h => hb.cell (p := ⟨b, o, none⟩) h, fun b o h => hb.frozen (p := ⟨b, o, none⟩) h⟩

def timeB (h mi s : Int) : Bool := decide (0 ≤ h ∧ h ≤ 23 ∧ 0 ≤ mi ∧ mi ≤ 59 ∧ 0 ≤ s ∧ s ≤ 59)
def secB (y m d h mi s : Int) : Bool := dayB y m d && timeB h mi s
def secI (y m d h mi s : Int) : Int := if secB y m d h mi s then placeI y m d * 86400 + h * 3600 + mi * 60 + s else 0

theorem daysI_range (y m d : Int) : -719162 ≤ daysI y m d ∧ daysI y m d ≤ 2932896 := by
  unfold daysI
  split
  · rename_i h; exact place_range ((dayB_iff y m d).1 h)
  · omega

theorem time_cases (h mi s : Int) : (¬ (0 ≤ h ∧ h ≤ 23) ∧ timeB h mi s = false) ∨ ((0 ≤ h ∧ h ≤ 23) ∧ ¬ (0 ≤ mi ∧ mi ≤ 59) ∧ timeB h mi s = false) ∨
    ((0 ≤ h ∧ h ≤ 23) ∧ (0 ≤ mi ∧ mi ≤ 59) ∧ ¬ (0 ≤ s ∧ s ≤ 59) ∧ timeB h mi s = false) ∨ ((0 ≤ h ∧ h ≤ 23) ∧ (0 ≤ mi ∧ mi ≤ 59) ∧ (0 ≤ s ∧ s ≤ 59) ∧ timeB h mi s = true) := by
  unfold timeB
  simp only [decide_eq_false_iff_not, decide_eq_true_eq]
  omega

end Go.Proofs.Ytlpcjnjhpgddmaa
