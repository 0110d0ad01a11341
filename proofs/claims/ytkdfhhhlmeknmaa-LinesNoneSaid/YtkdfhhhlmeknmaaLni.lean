/- Lines that are taken out of octets: the laws, of arguments that came in (layer 16). -/
import Derived.Test.YtkdfhhhlmeknmaaLnh
namespace Go.Proofs.Ytkdfhhhlmeknmaa
open Go.RowKit
theorem Try.fcellsS : Try.prog.cellsOf 9 = 1 := by kernel_rfl
theorem linesnone_arg (v : Value) (w : World) (h : Arg Try.prog w 9 v) :
    Calls Try.prog 5 #[v] w fun e w' => e = .returned (.bool true) ∧ Below w.heap.size w w' := by
  obtain ⟨s, rfl, hs⟩ := h.str Try.underlying9
  exact linesnone_walk s w hs
theorem linesfeed_arg (v0 v1 : Value) (w : World) (h0 : Arg Try.prog w 3 v0) (h1 : Arg Try.prog w 22 v1) :
    Calls Try.prog 3 #[v0, v1] w fun e w' => e = .returned (.bool true) ∧ Below w.heap.size w w' := by
  obtain ⟨m, rfl, hm⟩ := h0.int Try.underlying3
  obtain ⟨ps, hv, hz⟩ := h1.strs Try.underlying22 Try.underlying9 Try.fcellsS
  exact linesfeed_walk m v1 ps w hv hz
theorem linescuts_arg (v0 v1 : Value) (w : World) (h0 : Arg Try.prog w 3 v0) (h1 : Arg Try.prog w 22 v1) :
    Calls Try.prog 4 #[v0, v1] w fun e w' => e = .returned (.bool true) ∧ Below w.heap.size w w' := by
  obtain ⟨m, rfl, hm⟩ := h0.int Try.underlying3
  obtain ⟨ps, hv, hz⟩ := h1.strs Try.underlying22 Try.underlying9 Try.fcellsS
  exact linescuts_walk m v1 ps w hv hz
end Go.Proofs.Ytkdfhhhlmeknmaa
