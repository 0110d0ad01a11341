/- Layer 9: the field of a line, a field's line, on both sides. -/
import Derived.Test.YtpgnekejemockaaCtc
import Derived.Test.YtpgnekejemockaaKeeps
import Derived.Test.YtpgnekejemockaaQs
namespace Go.Proofs.Ytpgnekejemockaa
open Go.RowKit
set_option linter.unusedVariables false
set_option linter.unusedSimpArgs false

def fldK (s : ByteArray) : Nat := upTo 58 s.data.toList
def fldE (s : ByteArray) : Int := if fldK s = s.size then 3 else if tokenB (s.extract 0 (fldK s)) = false then 6 else if allB valueB (s.extract (fldK s + 1) s.size) = false then 7 else 0
def fldN (s : ByteArray) : ByteArray := if fldE s = 0 then s.extract 0 (fldK s) else ⟨#[]⟩
def fldV (s : ByteArray) : ByteArray := if fldE s = 0 then trimB (s.extract (fldK s + 1) s.size) else ⟨#[]⟩
theorem fldK_le (s : ByteArray) : fldK s ≤ s.size := by have := upTo_le 58 s.data.toList; rw [← ba_size'] at this; exact this
theorem fld_cases (s : ByteArray) :
    (fldK s = s.size ∧ fldE s = 3 ∧ fldN s = ⟨#[]⟩ ∧ fldV s = ⟨#[]⟩) ∨
    (fldK s < s.size ∧ tokenB (s.extract 0 (fldK s)) = false ∧ fldE s = 6 ∧ fldN s = ⟨#[]⟩ ∧ fldV s = ⟨#[]⟩) ∨
    (fldK s < s.size ∧ tokenB (s.extract 0 (fldK s)) = true ∧ allB valueB (s.extract (fldK s + 1) s.size) = false ∧ fldE s = 7 ∧ fldN s = ⟨#[]⟩ ∧ fldV s = ⟨#[]⟩) ∨
    (fldK s < s.size ∧ tokenB (s.extract 0 (fldK s)) = true ∧ allB valueB (s.extract (fldK s + 1) s.size) = true ∧ fldE s = 0 ∧ fldN s = s.extract 0 (fldK s) ∧ fldV s = trimB (s.extract (fldK s + 1) s.size)) := by
  have hle := fldK_le s
  by_cases h1 : fldK s = s.size
  · have he : fldE s = 3 := by unfold fldE; rw [if_pos h1]
    exact .inl ⟨h1, he, by unfold fldN; rw [he, if_neg (by decide)], by unfold fldV; rw [he, if_neg (by decide)]⟩
  · have hlt : fldK s < s.size := by omega
    cases h2 : tokenB (s.extract 0 (fldK s))
    · have he : fldE s = 6 := by unfold fldE; rw [if_neg h1, if_pos h2]
      exact .inr (.inl ⟨hlt, rfl, he, by unfold fldN; rw [he, if_neg (by decide)], by unfold fldV; rw [he, if_neg (by decide)]⟩)
    · cases h3 : allB valueB (s.extract (fldK s + 1) s.size)
      · have he : fldE s = 7 := by unfold fldE; rw [if_neg h1, if_neg (by rw [h2]; decide), if_pos h3]
        exact .inr (.inr (.inl ⟨hlt, rfl, rfl, he, by unfold fldN; rw [he, if_neg (by decide)], by unfold fldV; rw [he, if_neg (by decide)]⟩))
      · have he : fldE s = 0 := by unfold fldE; rw [if_neg h1, if_neg (by rw [h2]; decide), if_neg (by rw [h3]; decide)]
        exact .inr (.inr (.inr ⟨hlt, rfl, rfl, he, by unfold fldN; rw [he, if_pos rfl], by unfold fldV; rw [he, if_pos rfl]⟩))
theorem ext_size (s : ByteArray) (a b : Nat) : (s.extract a b).size ≤ s.size := by
  rw [ba_size', ba_size', Lib.extract_data]; simp; omega
def FldRet (s : ByteArray) (w : World) (e : Ending) (w' : World) : Prop := e = .returned (.tuple #[.agg #[.string (fldN s), .string (fldV s)], .int .i64 (fldE s)]) ∧ Below w.heap.size w w'
/-- The result's block stands, and takes what is stored. -/
theorem res_blk {w w2 : World} {t : TypeId} {a b : Value} (hb : Below (w.heap.size + 1) (w.alloc (.cells #[a, b] t)) w2) : w2.heap[w.heap.size]? = some (.cells #[a, b] t (0, 0)) := (hb.block w.heap.size (by omega)).trans (heap_alloc_new w _)
theorem res_end {w w2 : World} {t : TypeId} {a b : Value} (hb : Below (w.heap.size + 1) (w.alloc (.cells #[a, b] t)) w2) (u v : Value) :
    ((w2.setCell ⟨w.heap.size, 0, none⟩ u).setCell ⟨w.heap.size, 1, none⟩ v).heap[w.heap.size]? = some (.cells #[u, v] t (0, 0)) ∧ Below w.heap.size w ((w2.setCell ⟨w.heap.size, 0, none⟩ u).setCell ⟨w.heap.size, 1, none⟩ v) :=
  ⟨(blk_set (blk_set (res_blk hb) _) _).trans rfl, ((((Below.refl _ _).alloc (Nat.le_refl _) _).trans (hb.mono (by omega))).setCell (Nat.le_refl _) _).setCell (Nat.le_refl _) _⟩

theorem sz_al (w : World) (o : Obj) : (w.alloc o).heap.size = w.heap.size + 1 := World.size_alloc _ _
end Go.Proofs.Ytpgnekejemockaa
