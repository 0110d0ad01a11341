/- A link: what LinkPlays is handed (layer 38). -/
import Derived.Test.YtlgeebclphcnjaaLke
namespace Go.Proofs.Ytlgeebclphcnjaa
open Go.RowKit
theorem lplays_arg (v0 v1 : Value) (w : World) (h0 : Arg Try.prog w 3 v0) (h1 : Arg Try.prog w 34 v1) :
    Calls Try.prog 4 #[v0, v1] w fun e w' => e = .returned (.bool true) ∧ Below w.heap.size w w' := by
  obtain ⟨m, rfl, hm⟩ := h0.int Try.underlying3
  obtain ⟨ps, hv, hz⟩ := lacts_arg v1 w h1
  exact lplays_walk m v1 ps w hv hz
end Go.Proofs.Ytlgeebclphcnjaa
