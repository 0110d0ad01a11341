/- By whom a message came (layer 20): Parse, the document's; Text, both sides. -/
import Derived.Test.YtkfpioadimkogaaDoorVad
import Derived.RegionTactic
import Derived.ChangeAlike
import Derived.BigRegion
namespace Go.Proofs.YtkfpioadimkogaaDoor
open Go.RowKit
set_option linter.unusedVariables false
set_option linter.unusedSimpArgs false

/-- What the document's Parse keeps: its result, the hop. -/
structure RvW (V B C : ByteArray) (w W : World) : Prop where
  res : Bl W w.heap.size 26 #[.string ⟨#[]⟩, .string ⟨#[]⟩, .string ⟨#[]⟩]
  hop : Bl W (w.heap.size + 1) 26 #[.string V, .string B, .string C]
  bel : Below w.heap.size w W
theorem RvW.below {V B C : ByteArray} {w W W2 : World} (h : RvW V B C w W) (hb : Below W.heap.size W W2) : RvW V B C w W2 := ⟨h.res.below hb, h.hop.below hb, h.bel.trans (hb.mono h.bel.size)⟩
theorem RvW.set1 {V B C : ByteArray} {w W : World} (h : RvW V B C w W) (x : ByteArray) : RvW V x C w (W.setCell ⟨w.heap.size + 1, 1, none⟩ (.string x)) :=
  ⟨h.res.far (p := ⟨w.heap.size + 1, 1, none⟩) (by show w.heap.size ≠ w.heap.size + 1; omega) _, h.hop.set 1 _, h.bel.setCell (p := ⟨w.heap.size + 1, 1, none⟩) (by show w.heap.size ≤ w.heap.size + 1; omega) _⟩
theorem RvW.set2 {V B C : ByteArray} {w W : World} (h : RvW V B C w W) (x : ByteArray) : RvW V B x w (W.setCell ⟨w.heap.size + 1, 2, none⟩ (.string x)) :=
  ⟨h.res.far (p := ⟨w.heap.size + 1, 2, none⟩) (by show w.heap.size ≠ w.heap.size + 1; omega) _, h.hop.set 2 _, h.bel.setCell (p := ⟨w.heap.size + 1, 2, none⟩) (by show w.heap.size ≤ w.heap.size + 1; omega) _⟩
theorem RvW.new (V : ByteArray) (w W : World) (h1 : Bl W w.heap.size 26 #[.string ⟨#[]⟩, .string ⟨#[]⟩, .string ⟨#[]⟩]) (h2 : Below w.heap.size w W) (h3 : W.heap.size = w.heap.size + 1) : RvW V ⟨#[]⟩ ⟨#[]⟩ w (W.alloc (.cells #[.string V, .string ⟨#[]⟩, .string ⟨#[]⟩] 26)) := by
  have a2 := Bl.new W 26 #[.string V, .string ⟨#[]⟩, .string ⟨#[]⟩]
  rw [h3] at a2
  exact ⟨h1.alloc _, a2, h2.alloc (by omega) _⟩
/-! ### The ways -/
end Go.Proofs.YtkfpioadimkogaaDoor
