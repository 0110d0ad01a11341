/- Words with parameters, as plain functions (layer 8). -/
import Derived.Test.YtjocmjmfkgogiaaCue
import Derived.Test.YtjocmjmfkgogiaaLow
namespace Go.Proofs.Ytjocmjmfkgogiaa
open Go.RowKit
set_option linter.unusedVariables false
set_option linter.unusedSimpArgs false

/-- A parameter: its name and its value. -/
abbrev Par := ByteArray × ByteArray
def pcells (l : List Par) : List Value := l.flatMap fun p => [.string p.1, .string p.2]
theorem pcells_len (l : List Par) : (pcells l).length = l.length * 2 := by
  induction l with
  | nil => rfl
  | cons p l ih => simp only [pcells, List.flatMap_cons, List.length_append, List.length_cons] at *; rw [ih]; simp; omega
theorem pcells_snoc (l : List Par) (p : Par) : pcells (l ++ [p]) = pcells l ++ [.string p.1, .string p.2] := by simp [pcells]
theorem pcells_at : ∀ (l : List Par) (j : Nat) (h : j < l.length), (pcells l)[j * 2]? = some (.string l[j].1) ∧ (pcells l)[j * 2 + 1]? = some (.string l[j].2)
  | p :: l, 0, _ => by simp [pcells]
  | p :: l, j + 1, h => by
    have ih := pcells_at l j (by simpa using h)
    have e : pcells (p :: l) = .string p.1 :: .string p.2 :: pcells l := rfl
    rw [e]
    have e1 : (j + 1) * 2 = j * 2 + 1 + 1 := by omega
    rw [e1]
    exact ⟨by simpa using ih.1, by simpa using ih.2⟩
theorem pcells_one (l : List Par) : ∀ u ∈ pcells l, u.oneCell' = true := by
  intro u hu
  simp only [pcells, List.mem_flatMap] at hu
  obtain ⟨p, _, hp⟩ := hu
  simp at hp
  rcases hp with rfl | rfl <;> rfl

/-- A parameter at a text's beginning: name, value, and how many octets it has. -/
def semiAt (x : ByteArray) : Nat := preN blankN x
def nameAt (x : ByteArray) : Nat := semiAt x + 1 + preN blankN (fromB x (semiAt x + 1))
def nameLen (x : ByteArray) : Nat := preN tcharB (fromB x (nameAt x))
def nameEnd (x : ByteArray) : Nat := nameAt x + nameLen x
def eqAt (x : ByteArray) : Nat := nameEnd x + preN blankN (fromB x (nameEnd x))
def valAt (x : ByteArray) : Nat := eqAt x + 1 + preN blankN (fromB x (eqAt x + 1))
def valLen (x : ByteArray) : Nat := preN tcharB (fromB x (valAt x))
def hasSemi (x : ByteArray) : Bool := decide (semiAt x < x.size) && (bt x (semiAt x) == 59)
def hasEq (x : ByteArray) : Bool := decide (eqAt x < x.size) && (bt x (eqAt x) == 61)
def parName (x : ByteArray) : ByteArray := lowB (upB (fromB x (nameAt x)) (nameLen x))
def parOk (x : ByteArray) : Bool := hasSemi x && (decide (0 < nameLen x) && (!hasEq x || (decide (0 < valLen x) || decide (0 < quotedN (fromB x (valAt x))))))
def parVal (x : ByteArray) : ByteArray := if hasEq x then (if 0 < valLen x then upB (fromB x (valAt x)) (valLen x) else quotedS (fromB x (valAt x))) else ⟨#[]⟩
def parEnd (x : ByteArray) : Nat := if hasEq x then (if 0 < valLen x then valAt x + valLen x else valAt x + quotedN (fromB x (valAt x))) else nameEnd x
theorem semiAt_le (x : ByteArray) : semiAt x ≤ x.size := preN_le _ _
theorem pre_from (P : Nat → Bool) (x : ByteArray) (k : Nat) (h : k ≤ x.size) : k + preN P (fromB x k) ≤ x.size := by
  have := preN_le P (fromB x k)
  rw [fromB_size] at this
  omega
theorem nameAt_le {x : ByteArray} (h : hasSemi x = true) : semiAt x < x.size ∧ nameAt x ≤ x.size ∧ nameEnd x ≤ x.size ∧ eqAt x ≤ x.size := by
  simp only [hasSemi, Bool.and_eq_true, decide_eq_true_eq] at h
  have h1 : nameAt x ≤ x.size := pre_from _ _ _ (by omega)
  have h2 : nameEnd x ≤ x.size := pre_from _ _ _ h1
  exact ⟨h.1, h1, h2, pre_from _ _ _ h2⟩
theorem valAt_le {x : ByteArray} (h : hasEq x = true) : eqAt x < x.size ∧ valAt x ≤ x.size ∧ valAt x + valLen x ≤ x.size := by
  simp only [hasEq, Bool.and_eq_true, decide_eq_true_eq] at h
  have h1 : valAt x ≤ x.size := pre_from _ _ _ (by omega)
  exact ⟨h.1, h1, pre_from _ _ _ h1⟩
theorem quo_from (x : ByteArray) (k : Nat) (h : k ≤ x.size) : k + quotedN (fromB x k) ≤ x.size := by
  have := quotedN_le (fromB x k)
  rw [fromB_size] at this
  omega
theorem parEnd_le {x : ByteArray} (h : parOk x = true) : 1 ≤ parEnd x ∧ parEnd x ≤ x.size := by
  have h0 := h
  simp only [parOk, Bool.and_eq_true, decide_eq_true_eq] at h
  obtain ⟨h1, h2, h3⟩ := nameAt_le h.1 |>.2
  unfold parEnd
  have hn : 1 ≤ nameEnd x := by unfold nameEnd; omega
  have he : nameEnd x ≤ eqAt x := by unfold eqAt; omega
  split
  · rename_i hq
    obtain ⟨v1, v2, v3⟩ := valAt_le hq
    have hv : eqAt x + 1 ≤ valAt x := by unfold valAt; omega
    split
    · omega
    · exact ⟨by omega, quo_from _ _ v2⟩
  · omega

/-- The parameters of a text: what is left is read one by one. -/
def parsL : Nat → ByteArray → Option (List Par)
  | 0, _ => none
  | f + 1, x => if x.size = 0 then some [] else if parOk x then (parsL f (fromB x (parEnd x))).map ((parName x, parVal x) :: ·) else none
/-- What any text is: the error, the word, the parameters. -/
def prmAll (s : ByteArray) : Int × ByteArray × List Par :=
  if s.size = 0 then (2, ⟨#[]⟩, []) else
  if preN tcharB s = 0 then (3, ⟨#[]⟩, []) else
  match parsL (s.size + 1) (fromB s (preN tcharB s)) with
  | none => (3, ⟨#[]⟩, [])
  | some l => (0, lowB (upB s (preN tcharB s)), l)
theorem parsL_more : ∀ (f g : Nat) (x : ByteArray), x.size < f → x.size < g → parsL f x = parsL g x
  | 0, _, _, h, _ => by omega
  | _ + 1, 0, _, _, h => by omega
  | f + 1, g + 1, x, hf, hg => by
    unfold parsL
    split
    · rfl
    · split
      · rename_i h0 h1
        have := parEnd_le h1
        rw [parsL_more f g _ (by rw [fromB_size]; omega) (by rw [fromB_size]; omega)]
      · rfl
theorem parsL_step {x : ByteArray} (h0 : x.size ≠ 0) (h : parOk x = true) (f : Nat) (hf : x.size < f) : parsL f x = (parsL f (fromB x (parEnd x))).map ((parName x, parVal x) :: ·) := by
  have hb := parEnd_le h
  cases f with
  | zero => omega
  | succ f =>
    conv => lhs; unfold parsL
    rw [if_neg h0, if_pos h, parsL_more f (f + 1) _ (by rw [fromB_size]; omega) (by rw [fromB_size]; omega)]
theorem parsL_no {x : ByteArray} (h0 : x.size ≠ 0) (h : parOk x = false) (f : Nat) : parsL f x = none := by
  cases f with
  | zero => rfl
  | succ f => unfold parsL; rw [if_neg h0, if_neg (by rw [h]; decide)]
theorem parsL_end {x : ByteArray} (h0 : x.size = 0) (f : Nat) (hf : x.size < f) : parsL f x = some [] := by
  cases f with
  | zero => omega
  | succ f => unfold parsL; rw [if_pos h0]
end Go.Proofs.Ytjocmjmfkgogiaa
