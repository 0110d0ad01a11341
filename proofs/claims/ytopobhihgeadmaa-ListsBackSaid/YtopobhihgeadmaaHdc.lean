/- Fields without some names (layer 10), on both sides. -/
import Derived.Test.YtopobhihgeadmaaHdb
namespace Go.Proofs.Ytopobhihgeadmaa
open Go.RowKit
set_option linter.unusedVariables false
set_option linter.unusedSimpArgs false

def hHas (x : ByteArray) (ns : List ByteArray) : Bool := ns.any fun n => foldB x n
def hWo (l : List Fld) (ns : List ByteArray) : List Fld := l.filter fun p => !hHas p.1 ns
theorem hHas_take {x : ByteArray} {ns : List ByteArray} {k : Nat} (h : k < ns.length) : hHas x (ns.take (k + 1)) = (hHas x (ns.take k) || foldB x ns[k]) := by
  unfold hHas
  rw [List.take_succ_eq_append_getElem h, List.any_append]
  simp
theorem hHas_hit {x : ByteArray} {ns : List ByteArray} {k : Nat} (h : k < ns.length) (hf : foldB x ns[k] = true) : hHas x ns = true := List.any_eq_true.2 ⟨_, List.getElem_mem h, hf⟩
theorem hWo_take {l : List Fld} {ns : List ByteArray} {k : Nat} (h : k < l.length) : hWo (l.take (k + 1)) ns = hWo (l.take k) ns ++ (if hHas l[k].1 ns = true then [] else [l[k]]) := by
  unfold hWo
  rw [List.take_succ_eq_append_getElem h, List.filter_append]
  cases hf : hHas l[k].1 ns <;> simp [hf]
theorem hWo_len (l : List Fld) (ns : List ByteArray) : (hWo l ns).length ≤ l.length := List.length_filter_le _ _
def IdxPost (b : Bool) (w : World) (e : Ending) (w' : World) : Prop := ∃ r : Int, e = .returned (.int .i64 r) ∧ decide (0 ≤ r) = b ∧ Below w.heap.size w w'
end Go.Proofs.Ytopobhihgeadmaa
