/- Fields in their order (layer 10): plain functions; rows of the call's own; Is, All, Count. -/
import Derived.Test.YtopobhihgeadmaaFdt
import Derived.Test.YtopobhihgeadmaaFold
import Derived.Test.YtopobhihgeadmaaOctr
namespace Go.Proofs.Ytopobhihgeadmaa
open Go.RowKit
set_option linter.unusedVariables false
set_option linter.unusedSimpArgs false

def svH (l : List ByteArray) : List Value := l.flatMap strC
theorem svH_snoc (l : List ByteArray) (s : ByteArray) : svH (l ++ [s]) = svH l ++ [.string s] := by simp [svH, strC]
def fvH (l : List Fld) : List Value := l.flatMap fldC
theorem fvH_snoc (l : List Fld) (p : Fld) : fvH (l ++ [p]) = fvH l ++ [.string p.1, .string p.2] := by simp [fvH, fldC]
theorem Try.infoSH : (Try.prog.info? 9).map (fun i => (i.zero, i.size, i.bytes)) = some (some (.string ByteArray.empty), 1, 16) := by kernel_rfl
theorem Try.infoFH : (Try.prog.info? 170).map (fun i => (i.zero, i.size, i.bytes)) = some (some (.agg #[.string ByteArray.empty, .string ByteArray.empty]), 2, 32) := by kernel_rfl
theorem own_bel {w w' : World} {B : Nat} {e : TypeId} {sz n : Nat} {v : Value} {xs : List Value} (h : w.ownsRow B e sz v n xs) (hb : Below w.heap.size w w') : w'.ownsRow B e sz v n xs := by
  refine ⟨h.1, ?_⟩
  rcases h.2 with h | ⟨g, cap, cur, rfl, hg, hh, rest⟩
  · exact .inl h
  · exact .inr ⟨g, cap, cur, rfl, hg, (hb.block g (blk_lt hh)).trans hh, rest⟩
theorem own_lenH {w : World} {B : Nat} {e : TypeId} {sz n : Nat} {v : Value} {xs : List Value} (h : w.ownsRow B e sz v n xs) : ∃ a c, v = .slice a n c := by
  rcases h.2 with ⟨rfl, rfl⟩ | ⟨g, cap, cur, rfl, _⟩
  · exact ⟨_, _, rfl⟩
  · exact ⟨_, _, rfl⟩
theorem grown_bel {B : Nat} {w w' : World} {o : Obj} {v : Value} {e : TypeId} {sz n : Nat} {xs : List Value} (hown : w.ownsRow B e sz v n xs) (hB : B ≤ w.heap.size) (h : (w.alloc o).grownBy w' v.ownBlock) : Below B w w' :=
  ((Below.refl B w).alloc hB o).grown h (by simp; omega) fun k hk => (hown.lt k hk).1
/-- It tells texts, in a row of its own. -/
def RetS (l : List ByteArray) (w : World) (e : Ending) (w' : World) : Prop := ∃ v, e = .returned v ∧ w'.ownsRow w.heap.size 9 1 v l.length (svH l) ∧ Below w.heap.size w w'
def RetF (l : List Fld) (w : World) (e : Ending) (w' : World) : Prop := ∃ v, e = .returned v ∧ w'.ownsRow w.heap.size 170 2 v l.length (fvH l) ∧ Below w.heap.size w w'
theorem rds_own {w : World} {B : Nat} {v : Value} {l : List ByteArray} (h : w.ownsRow B 9 1 v l.length (svH l)) : RdS w v l := RdL.of_own (f := strC) (fun _ => rfl) h
theorem rdf_own {w : World} {B : Nat} {v : Value} {l : List Fld} (h : w.ownsRow B 170 2 v l.length (fvH l)) : RdF w v l := RdL.of_own (f := fldC) (fun _ => rfl) h
theorem rdf_cells {w : World} {a : Option Addr} {c n : Nat} {l : List Fld} (h : RdF w (.slice a n c) l) (h0 : 0 < l.length) : ∃ b o, a = some ⟨b, o, none⟩ ∧ b < w.heap.size ∧ ∀ (j : Nat) (h : j < l.length), w.cell? ⟨b, o + j * 2, none⟩ = some (.string l[j].1) ∧ w.cell? ⟨b, o + j * 2 + 1, none⟩ = some (.string l[j].2) := by
  obtain ⟨a', c', h1, h2, h3, h4⟩ := h
  cases h1
  obtain ⟨b, o, g1, g2, g3⟩ := h4 h0
  exact ⟨b, o, g1, g2, fun j hj => ⟨by have := g3 j hj 0 (by omega); simpa [fldC] using this, by have := g3 j hj 1 (by omega); simpa [fldC] using this⟩⟩
theorem rds_cells {w : World} {a : Option Addr} {c n : Nat} {l : List ByteArray} (h : RdS w (.slice a n c) l) (h0 : 0 < l.length) : ∃ b o, a = some ⟨b, o, none⟩ ∧ b < w.heap.size ∧ ∀ (j : Nat) (h : j < l.length), w.cell? ⟨b, o + j, none⟩ = some (.string l[j]) := by
  obtain ⟨a', c', h1, h2, h3, h4⟩ := h
  cases h1
  obtain ⟨b, o, g1, g2, g3⟩ := h4 h0
  exact ⟨b, o, g1, g2, fun j hj => by have := g3 j hj 0 (by omega); simpa [strC] using this⟩
/-- So short. -/
def FldSm (p : Fld) : Prop := p.1.size ≤ 100000 ∧ p.2.size ≤ 100000
/-- P10.1: the values of the fields of that name. -/
def hAll (l : List Fld) (nm : ByteArray) : List ByteArray := (l.filter fun p => foldB p.1 nm).map (·.2)
theorem hAll_take {l : List Fld} {nm : ByteArray} {k : Nat} (h : k < l.length) : hAll (l.take (k + 1)) nm = hAll (l.take k) nm ++ (if foldB l[k].1 nm = true then [l[k].2] else []) := by
  unfold hAll
  rw [List.take_succ_eq_append_getElem h, List.filter_append, List.map_append]
  cases hf : foldB l[k].1 nm <;> simp [hf]
theorem hAll_len (l : List Fld) (nm : ByteArray) : (hAll l nm).length ≤ l.length := by unfold hAll; rw [List.length_map]; exact List.length_filter_le _ _
end Go.Proofs.Ytopobhihgeadmaa
