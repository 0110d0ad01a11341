/- What is said to caches (layer 21): a directive, the document's. · What is said to caches (layer 21): directives, as plain functions; Parse, the document's. -/
import Derived.Test.YtgamekfickheaaaCcy
import Derived.Test.YtgamekfickheaaaPrf
import Derived.Test.YtgamekfickheaaaKeeps
import Derived.Test.YtgamekfickheaaaLsh
namespace Go.Proofs.Ytgamekfickheaaa
open Go.RowKit
set_option linter.unusedVariables false
set_option linter.unusedSimpArgs false

def OnePostD (s : ByteArray) (w : World) (e : Ending) (w' : World) : Prop :=
  ∃ (nm vl : ByteArray) (st : Bool), e = .returned (.tuple #[.agg #[.string nm, .string vl, .bool st], .bool (okD s)]) ∧ (okD s = true → nm = nmD s ∧ vl = vlD s ∧ st = setD s) ∧ Below w.heap.size w w'
theorem dK_le (s : ByteArray) : dK s ≤ s.size - (dN s + 1) := by
  have h : dK s ≤ (fromB s (dN s + 1)).size := preN_le _ _
  rw [fromB_size] at h
  exact h
theorem dN_le (s : ByteArray) : dN s ≤ s.size := preN_le _ _
theorem setD_no {s : ByteArray} (h : ¬ (dN s < s.size ∧ bt s (dN s) = 61)) : setD s = false := by
  unfold setD
  rw [Bool.and_eq_false_iff, decide_eq_false_iff_not, beq_eq_false_iff_ne]
  by_cases h1 : dN s < s.size
  · exact .inr (fun h2 => h ⟨h1, h2⟩)
  · exact .inl h1
theorem okD_plain {s : ByteArray} (h : setD s = false) : okD s = (decide (0 < dN s) && decide (s.size - dN s = 0)) ∧ vlD s = ⟨#[]⟩ := by
  unfold okD enD vlD
  rw [h]
  simp [fromB_size]
theorem okD_set {s : ByteArray} (h : setD s = true) (hn : 0 < dN s) : okD s = if 0 < dK s then decide (dK s = s.size - (dN s + 1)) else (decide (0 < dQ s) && decide (s.size - (dN s + 1 + dQ s) = 0)) := by
  have hk := dK_le s
  unfold okD enD
  rw [h, decide_eq_true hn]
  by_cases h0 : 0 < dK s
  · rw [if_pos h0, decide_eq_true h0]
    simp only [fromB_size, Bool.not_true, Bool.true_or, Bool.or_true, Bool.false_or, Bool.true_and, if_true, Bool.true_and]
    rw [if_pos h0]
    congr 1
    rw [eq_iff_iff]
    omega
  · rw [if_neg h0, decide_eq_false h0]
    simp only [fromB_size, Bool.not_true, Bool.false_or, Bool.true_and, if_true]
    rw [if_neg h0]
theorem vlD_set {s : ByteArray} (h : setD s = true) : vlD s = if 0 < dK s then upB (fromB s (dN s + 1)) (dK s) else quotedS (fromB s (dN s + 1)) := by unfold vlD; rw [h]; rfl
end Go.Proofs.Ytgamekfickheaaa
namespace Go.Proofs.Ytgamekfickheaaa
open Go.RowKit
set_option linter.unusedVariables false
set_option linter.unusedSimpArgs false

/-- A directive: its name, its value, whether it has one. -/
abbrev Dir := ByteArray × ByteArray × Bool
def dirC (d : Dir) : List Value := [.string d.1, .string d.2.1, .bool d.2.2]
def dvH (l : List Dir) : List Value := l.flatMap dirC
theorem dvH_snoc (l : List Dir) (d : Dir) : dvH (l ++ [d]) = dvH l ++ [.string d.1, .string d.2.1, .bool d.2.2] := by simp [dvH, dirC]
theorem Try.infoDi : (Try.prog.info? 181).map (fun i => (i.zero, i.size, i.bytes)) = some (some (.agg #[.string ByteArray.empty, .string ByteArray.empty, .bool false]), 3, 40) := by kernel_rfl
abbrev RdD (w : World) (v : Value) (l : List Dir) : Prop := RdL dirC 3 w v l
theorem rdd_own {w : World} {B : Nat} {v : Value} {l : List Dir} (h : w.ownsRow B 181 3 v l.length (dvH l)) : RdD w v l := RdL.of_own (f := dirC) (fun _ => rfl) h
theorem rdd_cells {w : World} {a : Option Addr} {c n : Nat} {l : List Dir} (h : RdD w (.slice a n c) l) (h0 : 0 < l.length) : ∃ b o, a = some ⟨b, o, none⟩ ∧ b < w.heap.size ∧ ∀ (j : Nat) (h : j < l.length), w.cell? ⟨b, o + j * 3, none⟩ = some (.string l[j].1) ∧ w.cell? ⟨b, o + j * 3 + 1, none⟩ = some (.string l[j].2.1) ∧ w.cell? ⟨b, o + j * 3 + 2, none⟩ = some (.bool l[j].2.2) := by
  obtain ⟨a', c', h1, h2, h3, h4⟩ := h
  cases h1
  obtain ⟨b, o, g1, g2, g3⟩ := h4 h0
  exact ⟨b, o, g1, g2, fun j hj => ⟨by have := g3 j hj 0 (by omega); simpa [dirC] using this, by have := g3 j hj 1 (by omega); simpa [dirC] using this, by have := g3 j hj 2 (by omega); simpa [dirC] using this⟩⟩
def dirOf (s : ByteArray) : Dir := (nmD s, vlD s, setD s)
def prsOk (v : ByteArray) : Bool := splB v && (splL v).all okD
/-- P21.1: the directives that a text is. -/
def prs (v : ByteArray) : List Dir := if prsOk v = true then (splL v).map dirOf else []
def RetD (v : ByteArray) (w : World) (e : Ending) (w' : World) : Prop := ∃ u, e = .returned (.tuple #[u, .bool (prsOk v)]) ∧ w'.ownsRow w.heap.size 181 3 u (prs v).length (dvH (prs v)) ∧ Below w.heap.size w w'
def dirP (L : List ByteArray) (k : Nat) : List Dir := (L.take k).map dirOf
theorem dirP_step {L : List ByteArray} {k : Nat} (h : k < L.length) : dirP L (k + 1) = dirP L k ++ [dirOf L[k]] := by
  unfold dirP
  rw [List.take_succ_eq_append_getElem h, List.map_append]
  rfl
theorem dirP_len (L : List ByteArray) (k : Nat) : (dirP L k).length ≤ k := by unfold dirP; rw [List.length_map, List.length_take]; omega
def okU (L : List ByteArray) (k : Nat) : Prop := ∀ (j : Nat) (h : j < L.length), j < k → okD L[j] = true
theorem prs_hit {v : ByteArray} {k : Nat} (h : k < (splL v).length) (hf : okD (splL v)[k] = false) : prsOk v = false ∧ prs v = [] := by
  have h1 : prsOk v = false := by
    unfold prsOk
    rw [show (splL v).all okD = false from List.all_eq_false.2 ⟨_, List.getElem_mem h, by simp [hf]⟩]
    simp
  exact ⟨h1, by unfold prs; rw [h1]; rfl⟩
theorem prs_end {v : ByteArray} {k : Nat} (hk : (splL v).length ≤ k) (h : okU (splL v) k) : prsOk v = splB v ∧ prs v = dirP (splL v) k := by
  have ha : (splL v).all okD = true := List.all_eq_true.2 fun x hx => by
    obtain ⟨j, hj, rfl⟩ := List.getElem_of_mem hx
    exact h j hj (by omega)
  have h1 : prsOk v = splB v := by unfold prsOk; rw [ha]; simp
  refine ⟨h1, ?_⟩
  unfold prs dirP
  rw [h1, List.take_of_length_le hk]
  cases hb : splB v
  · have : splL v = [] := by unfold splL; rw [hb]; rfl
    rw [this]
    rfl
  · rfl
theorem prs_none {v : ByteArray} (h : splB v = false) : prsOk v = false ∧ prs v = [] := by
  have h1 : prsOk v = false := by unfold prsOk; rw [h]; rfl
  exact ⟨h1, by unfold prs; rw [h1]; rfl⟩
end Go.Proofs.Ytgamekfickheaaa
