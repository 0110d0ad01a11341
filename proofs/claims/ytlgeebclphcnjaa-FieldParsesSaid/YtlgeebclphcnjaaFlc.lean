/- Layer 9: what FieldParses is handed. -/
import Derived.Test.YtlgeebclphcnjaaFlb
import Derived.Test.YtlgeebclphcnjaaFdt
namespace Go.Proofs.Ytlgeebclphcnjaa
open Go.RowKit
theorem fparses_arg (v0 v1 : Value) (w : World) (h0 : Arg Try.prog w 9 v0) (h1 : Arg Try.prog w 75 v1) :
    Calls Try.prog 12 #[v0, v1] w fun e w' => e = .returned (.bool true) ∧ Below w.heap.size w w' := by
  obtain ⟨s, rfl, hs⟩ := h0.str Try.underlying9
  obtain ⟨n, v, rfl, hn, hv⟩ := fld_arg v1 w h1
  exact fparses_walk s n v w hs hn hv
end Go.Proofs.Ytlgeebclphcnjaa
