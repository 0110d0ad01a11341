/- Octets that wait: what QueuePlays is handed (layer 3). -/
import Derived.Test.YtkdfhhhlmeknmaaQuh
namespace Go.Proofs.Ytkdfhhhlmeknmaa
open Go.RowKit
theorem qplays_arg (v0 v1 : Value) (w : World) (h0 : Arg Try.prog w 3 v0) (h1 : Arg Try.prog w 43 v1) :
    Calls Try.prog 6 #[v0, v1] w fun e w' => e = .returned (.bool true) ∧ Below w.heap.size w w' := by
  obtain ⟨m, rfl, hm⟩ := h0.int Try.underlying3
  obtain ⟨ps, hv, hz⟩ := qacts_arg v1 w h1
  exact qplays_walk m v1 ps w hv hz
end Go.Proofs.Ytkdfhhhlmeknmaa
