/- The first field of a name (layer 10), on both sides. -/
import Derived.Test.YthlkflneldjnjaaHdc
namespace Go.Proofs.Ythlkflneldjnjaa
open Go.RowKit
set_option linter.unusedVariables false
set_option linter.unusedSimpArgs false

def hGet (l : List Fld) (nm : ByteArray) : ByteArray := (hAll l nm).headD ⟨#[]⟩
def hIs (l : List Fld) (nm : ByteArray) : Bool := decide (0 < (hAll l nm).length)
theorem hAll_two (l : List Fld) (nm : ByteArray) (k : Nat) : hAll l nm = hAll (l.take k) nm ++ hAll (l.drop k) nm := by
  unfold hAll
  rw [← List.map_append, ← List.filter_append, List.take_append_drop]
theorem hAll_hit {l : List Fld} {nm : ByteArray} {k : Nat} (h : k < l.length) (h0 : hAll (l.take k) nm = []) (hf : foldB l[k].1 nm = true) : hGet l nm = l[k].2 ∧ hIs l nm = true := by
  have e := hAll_two l nm (k + 1)
  rw [hAll_take h, h0, hf] at e
  unfold hGet hIs
  rw [e]
  simp
theorem hAll_miss {l : List Fld} {nm : ByteArray} (h0 : hAll l nm = []) : hGet l nm = ⟨#[]⟩ ∧ hIs l nm = false := by
  unfold hGet hIs
  rw [h0]
  simp
def IdfPost (l : List Fld) (nm : ByteArray) (w : World) (e : Ending) (w' : World) : Prop := ∃ r : Int, e = .returned (.int .i64 r) ∧ Below w.heap.size w w' ∧ ((r = -1 ∧ hAll l nm = []) ∨ ∃ k : Nat, r = (k : Int) ∧ ∃ h : k < l.length, hGet l nm = l[k].2 ∧ hIs l nm = true)
end Go.Proofs.Ythlkflneldjnjaa
