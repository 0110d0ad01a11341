/- Words with parameters, as plain functions (layer 8). · Words with parameters: a parameter is taken (layer 8). · Words with parameters: a parameter is taken, on (layer 8). -/
import Derived.Test.YtgamekfickheaaaGreatCuh
import Derived.Test.YtgamekfickheaaaGreatKeeps
import Derived.Laws.Rows
namespace Go.Proofs.YtgamekfickheaaaGreat
open Go.RowKit
set_option linter.unusedVariables false
set_option linter.unusedSimpArgs false

/-- A parameter: its name and its value. -/
abbrev Par := ByteArray × ByteArray
def pcells (l : List Par) : List Value := l.flatMap fun p => [.string p.1, .string p.2]
theorem pcells_len (l : List Par) : (pcells l).length = l.length * 2 := by
  induction l with
  | nil => rfl
  | cons p l ih => simp only [pcells, List.flatMap_cons, List.length_append, List.length_cons] at *; rw [ih]; simp; omega
theorem pcells_snoc (l : List Par) (p : Par) : pcells (l ++ [p]) = pcells l ++ [.string p.1, .string p.2] := by simp [pcells]
theorem pcells_at : ∀ (l : List Par) (j : Nat) (h : j < l.length), (pcells l)[j * 2]? = some (.string l[j].1) ∧ (pcells l)[j * 2 + 1]? = some (.string l[j].2)
  | p :: l, 0, _ => by simp [pcells]
  | p :: l, j + 1, h => by
    have ih := pcells_at l j (by simpa using h)
    have e : pcells (p :: l) = .string p.1 :: .string p.2 :: pcells l := rfl
    rw [e]
    have e1 : (j + 1) * 2 = j * 2 + 1 + 1 := by omega
    rw [e1]
    exact ⟨by simpa using ih.1, by simpa using ih.2⟩
theorem pcells_one (l : List Par) : ∀ u ∈ pcells l, u.oneCell' = true := by
  intro u hu
  simp only [pcells, List.mem_flatMap] at hu
  obtain ⟨p, _, hp⟩ := hu
  simp at hp
  rcases hp with rfl | rfl <;> rfl

/-- A parameter at a text's beginning: name, value, and how many octets it has. -/
def semiAt (x : ByteArray) : Nat := preN blankN x
def nameAt (x : ByteArray) : Nat := semiAt x + 1 + preN blankN (fromB x (semiAt x + 1))
def nameLen (x : ByteArray) : Nat := preN tcharB (fromB x (nameAt x))
def nameEnd (x : ByteArray) : Nat := nameAt x + nameLen x
def eqAt (x : ByteArray) : Nat := nameEnd x + preN blankN (fromB x (nameEnd x))
def valAt (x : ByteArray) : Nat := eqAt x + 1 + preN blankN (fromB x (eqAt x + 1))
def valLen (x : ByteArray) : Nat := preN tcharB (fromB x (valAt x))
def hasSemi (x : ByteArray) : Bool := decide (semiAt x < x.size) && (bt x (semiAt x) == 59)
def hasEq (x : ByteArray) : Bool := decide (eqAt x < x.size) && (bt x (eqAt x) == 61)
def parName (x : ByteArray) : ByteArray := lowB (upB (fromB x (nameAt x)) (nameLen x))
def parOk (x : ByteArray) : Bool := hasSemi x && (decide (0 < nameLen x) && (!hasEq x || (decide (0 < valLen x) || decide (0 < quotedN (fromB x (valAt x))))))
def parVal (x : ByteArray) : ByteArray := if hasEq x then (if 0 < valLen x then upB (fromB x (valAt x)) (valLen x) else quotedS (fromB x (valAt x))) else ⟨#[]⟩
def parEnd (x : ByteArray) : Nat := if hasEq x then (if 0 < valLen x then valAt x + valLen x else valAt x + quotedN (fromB x (valAt x))) else nameEnd x
theorem semiAt_le (x : ByteArray) : semiAt x ≤ x.size := preN_le _ _
theorem pre_from (P : Nat → Bool) (x : ByteArray) (k : Nat) (h : k ≤ x.size) : k + preN P (fromB x k) ≤ x.size := by
  have := preN_le P (fromB x k)
  rw [fromB_size] at this
  omega
theorem nameAt_le {x : ByteArray} (h : hasSemi x = true) : semiAt x < x.size ∧ nameAt x ≤ x.size ∧ nameEnd x ≤ x.size ∧ eqAt x ≤ x.size := by
  simp only [hasSemi, Bool.and_eq_true, decide_eq_true_eq] at h
  have h1 : nameAt x ≤ x.size := pre_from _ _ _ (by omega)
  have h2 : nameEnd x ≤ x.size := pre_from _ _ _ h1
  exact ⟨h.1, h1, h2, pre_from _ _ _ h2⟩
theorem valAt_le {x : ByteArray} (h : hasEq x = true) : eqAt x < x.size ∧ valAt x ≤ x.size ∧ valAt x + valLen x ≤ x.size := by
  simp only [hasEq, Bool.and_eq_true, decide_eq_true_eq] at h
  have h1 : valAt x ≤ x.size := pre_from _ _ _ (by omega)
  exact ⟨h.1, h1, pre_from _ _ _ h1⟩
theorem quo_from (x : ByteArray) (k : Nat) (h : k ≤ x.size) : k + quotedN (fromB x k) ≤ x.size := by
  have := quotedN_le (fromB x k)
  rw [fromB_size] at this
  omega
theorem parEnd_le {x : ByteArray} (h : parOk x = true) : 1 ≤ parEnd x ∧ parEnd x ≤ x.size := by
  have h0 := h
  simp only [parOk, Bool.and_eq_true, decide_eq_true_eq] at h
  obtain ⟨h1, h2, h3⟩ := nameAt_le h.1 |>.2
  unfold parEnd
  have hn : 1 ≤ nameEnd x := by unfold nameEnd; omega
  have he : nameEnd x ≤ eqAt x := by unfold eqAt; omega
  split
  · rename_i hq
    obtain ⟨v1, v2, v3⟩ := valAt_le hq
    have hv : eqAt x + 1 ≤ valAt x := by unfold valAt; omega
    split
    · omega
    · exact ⟨by omega, quo_from _ _ v2⟩
  · omega

/-- The parameters of a text: what is left is read one by one. -/
def parsL : Nat → ByteArray → Option (List Par)
  | 0, _ => none
  | f + 1, x => if x.size = 0 then some [] else if parOk x then (parsL f (fromB x (parEnd x))).map ((parName x, parVal x) :: ·) else none
/-- What any text is: the error, the word, the parameters. -/
def prmAll (s : ByteArray) : Int × ByteArray × List Par :=
  if s.size = 0 then (2, ⟨#[]⟩, []) else
  if preN tcharB s = 0 then (3, ⟨#[]⟩, []) else
  match parsL (s.size + 1) (fromB s (preN tcharB s)) with
  | none => (3, ⟨#[]⟩, [])
  | some l => (0, lowB (upB s (preN tcharB s)), l)
theorem parsL_more : ∀ (f g : Nat) (x : ByteArray), x.size < f → x.size < g → parsL f x = parsL g x
  | 0, _, _, h, _ => by omega
  | _ + 1, 0, _, _, h => by omega
  | f + 1, g + 1, x, hf, hg => by
    unfold parsL
    split
    · rfl
    · split
      · rename_i h0 h1
        have := parEnd_le h1
        rw [parsL_more f g _ (by rw [fromB_size]; omega) (by rw [fromB_size]; omega)]
      · rfl
theorem parsL_step {x : ByteArray} (h0 : x.size ≠ 0) (h : parOk x = true) (f : Nat) (hf : x.size < f) : parsL f x = (parsL f (fromB x (parEnd x))).map ((parName x, parVal x) :: ·) := by
  have hb := parEnd_le h
  cases f with
  | zero => omega
  | succ f =>
    conv => lhs; unfold parsL
    rw [if_neg h0, if_pos h, parsL_more f (f + 1) _ (by rw [fromB_size]; omega) (by rw [fromB_size]; omega)]
theorem parsL_no {x : ByteArray} (h0 : x.size ≠ 0) (h : parOk x = false) (f : Nat) : parsL f x = none := by
  cases f with
  | zero => rfl
  | succ f => unfold parsL; rw [if_neg h0, if_neg (by rw [h]; decide)]
theorem parsL_end {x : ByteArray} (h0 : x.size = 0) (f : Nat) (hf : x.size < f) : parsL f x = some [] := by
  cases f with
  | zero => omega
  | succ f => unfold parsL; rw [if_pos h0]
end Go.Proofs.YtgamekfickheaaaGreat
namespace Go.Proofs.YtgamekfickheaaaGreat
open Go.RowKit
set_option linter.unusedVariables false
set_option linter.unusedSimpArgs false

/-- Block g holds just the cells cs, of type t. -/
def Bl (w : World) (g : Nat) (t : TypeId) (cs : Array Value) : Prop := w.heap[g]? = some (.cells cs t (0, 0))
theorem Bl.lt {w : World} {g : Nat} {t : TypeId} {cs : Array Value} (h : Bl w g t cs) : g < w.heap.size := (Array.getElem?_eq_some_iff.1 h).1
theorem Bl.cell {w : World} {g : Nat} {t : TypeId} {cs : Array Value} (h : Bl w g t cs) (i : Nat) : w.cell? ⟨g, i, none⟩ = cs[i]? := cell_of_row w g i cs t (0, 0) h
theorem Bl.free {w : World} {g : Nat} {t : TypeId} {cs : Array Value} (h : Bl w g t cs) (i : Nat) : w.frozen? ⟨g, i, none⟩ = false := by
  unfold Bl at h; simp [World.frozen?, h]
theorem Bl.new (w : World) (t : TypeId) (cs : Array Value) : Bl (w.alloc (.cells cs t)) w.heap.size t cs := heap_alloc_new w _
theorem Bl.alloc {w : World} {g : Nat} {t : TypeId} {cs : Array Value} (h : Bl w g t cs) (o : Obj) : Bl (w.alloc o) g t cs := (Below.heap_alloc w o g h.lt).trans h
theorem Bl.below {w w' : World} {g : Nat} {t : TypeId} {cs : Array Value} (h : Bl w g t cs) (hb : Below w.heap.size w w') : Bl w' g t cs := (hb.block g h.lt).trans h
theorem Bl.but {w w' : World} {g b : Nat} {t : TypeId} {cs : Array Value} (h : Bl w g t cs) (hb : But b w w') (hg : g ≠ b) : Bl w' g t cs := (hb.block g h.lt hg).trans h
theorem Bl.set {w : World} {g : Nat} {t : TypeId} {cs : Array Value} (h : Bl w g t cs) (i : Nat) (u : Value) : Bl (w.setCell ⟨g, i, none⟩ u) g t (cs.setIfInBounds i u) := by
  unfold Bl at *; simp [World.setCell, Array.getElem?_modify, h]
theorem Bl.far {w : World} {g : Nat} {t : TypeId} {cs : Array Value} (h : Bl w g t cs) {p : Addr} (hp : g ≠ p.block) (u : Value) : Bl (w.setCell p u) g t cs := (Below.heap_setCell w p u g hp).trans h
theorem CurAt.but {b n g : Nat} {s : ByteArray} {w w' : World} (h : CurAt b s n w) (hb : But g w w') (hg : b ≠ g) : CurAt b s n w' :=
  ⟨by rw [hb.cell (p := ⟨b, 0, none⟩) h.lt hg]; exact h.txt, by rw [hb.cell (p := ⟨b, 1, none⟩) h.lt hg]; exact h.pos, by rw [hb.frozen (p := ⟨b, 1, none⟩) h.lt hg]; exact h.free, Nat.lt_of_lt_of_le h.lt hb.size, h.le, h.small, (hb.block b h.lt hg).trans h.blk⟩
theorem But.of_below {b B : Nat} {w w' : World} (h : Below B w w') (hB : w.heap.size ≤ B) : But b w w' := ⟨h.os, h.tape, h.output, h.size, fun k hk _ => h.block k (by omega)⟩
theorem But.alloc {b : Nat} {w w' : World} (h : But b w w') (o : Obj) : But b w (w'.alloc o) := h.trans (But.of ((Below.refl _ _).alloc (Nat.le_refl _) o))
/-- What But b leaves, where the other block is new. -/
theorem But.new {b g : Nat} {u w w' : World} (h : But b u w) (hg : u.heap.size ≤ g) (k : But g w w') : But b u w' :=
  ⟨k.os.trans h.os, k.tape.trans h.tape, k.output.trans h.output, Nat.le_trans h.size k.size, fun i hi hb => (k.block i (Nat.lt_of_lt_of_le hi h.size) (by omega)).trans (h.block i hi hb)⟩
theorem But.store {b g : Nat} {u w : World} (h : But b u w) (hg : u.heap.size ≤ g) (i : Nat) (v : Value) : But b u (w.setCell ⟨g, i, none⟩ v) :=
  h.new hg ⟨rfl, rfl, rfl, by simp [World.setCell], fun k hk hb => Below.heap_setCell _ _ _ _ hb⟩

theorem CurAt.far {b n g : Nat} {s : ByteArray} {w : World} (h : CurAt b s n w) (hg : b ≠ g) (i : Nat) (v : Value) : CurAt b s n (w.setCell ⟨g, i, none⟩ v) :=
  h.but ((But.of (Below.refl _ _)).setCell i v) hg
theorem CurAt.alloc {b n : Nat} {s : ByteArray} {w : World} (h : CurAt b s n w) (o : Obj) : CurAt b s n (w.alloc o) := h.kept ((Below.refl _ _).alloc (Nat.le_refl _) _)

def OnePost (b n : Nat) (s : ByteArray) (w : World) (e : Ending) (w' : World) : Prop :=
  ∃ (nm vl : ByteArray) (m : Nat), e = .returned (.tuple #[.agg #[.string nm, .string vl], .bool (parOk (fromB s n))]) ∧ CurTo b s m w w' ∧ (parOk (fromB s n) = true → nm = parName (fromB s n) ∧ vl = parVal (fromB s n) ∧ m = n + parEnd (fromB s n))

structure OneFacts (n : Nat) (s : ByteArray) : Prop where
  e2 : n + semiAt (fromB s n) + 1 + preN blankN (fromB s (n + semiAt (fromB s n) + 1)) = n + nameAt (fromB s n)
  e3 : fromB s (n + nameAt (fromB s n)) = fromB (fromB s n) (nameAt (fromB s n))
  e4 : n + nameAt (fromB s n) + nameLen (fromB s n) = n + nameEnd (fromB s n)
  e5 : fromB s (n + nameEnd (fromB s n)) = fromB (fromB s n) (nameEnd (fromB s n))
  e6 : n + nameEnd (fromB s n) + preN blankN (fromB (fromB s n) (nameEnd (fromB s n))) = n + eqAt (fromB s n)
  e7 : n + eqAt (fromB s n) + 1 + preN blankN (fromB s (n + eqAt (fromB s n) + 1)) = n + valAt (fromB s n)
  e8 : fromB s (n + valAt (fromB s n)) = fromB (fromB s n) (valAt (fromB s n))
  e9 : n + valAt (fromB s n) + valLen (fromB s n) = n + (valAt (fromB s n) + valLen (fromB s n))
theorem oneFacts (n : Nat) (s : ByteArray) : OneFacts n s := by
  have f : ∀ k, fromB s (n + k) = fromB (fromB s n) k := fun k => (fromB_from s n k).symm
  refine ⟨?_, f _, by unfold nameEnd; omega, f _, by unfold eqAt; omega, ?_, f _, by omega⟩
  · rw [Nat.add_assoc n, f]; unfold nameAt; omega
  · rw [Nat.add_assoc n, f]; unfold valAt; omega
theorem semi_iff {n : Nat} {s : ByteArray} (hn : n ≤ s.size) : (hasSemi (fromB s n) = true → n + semiAt (fromB s n) < s.size ∧ (bt s (n + semiAt (fromB s n)) : Int) = 59) ∧ (hasSemi (fromB s n) = false → n + semiAt (fromB s n) < s.size → ¬ (bt s (n + semiAt (fromB s n)) : Int) = 59) := by
  have hz := fromB_size s n
  refine ⟨fun h => ?_, fun h h1 h2 => ?_⟩
  · simp only [hasSemi, Bool.and_eq_true, decide_eq_true_eq, beq_iff_eq] at h
    have h1 : n + semiAt (fromB s n) < s.size := by omega
    rw [fromB_bt s n _ h1] at h
    exact ⟨h1, by omega⟩
  · have h3 : hasSemi (fromB s n) = true := by
      simp only [hasSemi, Bool.and_eq_true, decide_eq_true_eq, beq_iff_eq]
      exact ⟨by omega, by rw [fromB_bt s n _ h1]; omega⟩
    rw [h3] at h; cases h
theorem eq_iff {x : ByteArray} (he : nameEnd x ≤ x.size) : (hasEq x = true → preN blankN (fromB x (nameEnd x)) < (fromB x (nameEnd x)).size ∧ (bt (fromB x (nameEnd x)) (preN blankN (fromB x (nameEnd x))) : Int) = 61) ∧
    (hasEq x = false → preN blankN (fromB x (nameEnd x)) < (fromB x (nameEnd x)).size → ¬ (bt (fromB x (nameEnd x)) (preN blankN (fromB x (nameEnd x))) : Int) = 61) := by
  have hz := fromB_size x (nameEnd x)
  refine ⟨fun h => ?_, fun h h1 h2 => ?_⟩
  · simp only [hasEq, Bool.and_eq_true, decide_eq_true_eq, beq_iff_eq] at h
    have h1 : nameEnd x + preN blankN (fromB x (nameEnd x)) < x.size := h.1
    refine ⟨by omega, ?_⟩
    rw [fromB_bt x _ _ h1]
    have := h.2
    unfold eqAt at this
    omega
  · have h4 : nameEnd x + preN blankN (fromB x (nameEnd x)) < x.size := by omega
    have h3 : hasEq x = true := by
      simp only [hasEq, Bool.and_eq_true, decide_eq_true_eq, beq_iff_eq]
      refine ⟨h4, ?_⟩
      rw [fromB_bt x _ _ h4] at h2
      unfold eqAt; omega
    rw [h3] at h; cases h
theorem eqb_iff {n : Nat} {s : ByteArray} (hn : n ≤ s.size) (h : hasEq (fromB s n) = true) : n + eqAt (fromB s n) < s.size ∧ (bt s (n + eqAt (fromB s n)) : Int) = 61 := by
  have hz := fromB_size s n
  simp only [hasEq, Bool.and_eq_true, decide_eq_true_eq, beq_iff_eq] at h
  have h1 : n + eqAt (fromB s n) < s.size := by omega
  rw [fromB_bt s n _ h1] at h
  exact ⟨h1, by omega⟩
theorem lowB_sz (s : ByteArray) : (lowB s).size = s.size := by rw [ba_size, ba_size]; simp [lowB, lowL]
theorem tl_of_size {s : ByteArray} (h : s.size = 0) : s.toList = [] := by rw [ByteArray.toList_eq, ← List.length_eq_zero_iff, ← ba_size]; exact h
theorem tl_ne_size {s : ByteArray} (h : 0 < s.size) : s.toList.isEmpty = false := by rw [emp_iff, decide_eq_false_iff_not]; omega

end Go.Proofs.YtgamekfickheaaaGreat
namespace Go.Proofs.YtgamekfickheaaaGreat
open Go.RowKit
set_option linter.unusedVariables false
set_option linter.unusedSimpArgs false

theorem parOk_b {x : ByteArray} (h2 : nameLen x = 0) : parOk x = false := by unfold parOk; rw [h2]; simp
theorem parOk_c {x : ByteArray} (h1 : hasSemi x = true) (h2 : 0 < nameLen x) (h3 : hasEq x = false) : parOk x = true ∧ parVal x = ⟨#[]⟩ ∧ parEnd x = nameEnd x := by
  unfold parOk parVal parEnd; rw [h1, h3]; simp [h2]
theorem parOk_d {x : ByteArray} (h1 : hasSemi x = true) (h2 : 0 < nameLen x) (h3 : hasEq x = true) (h4 : 0 < valLen x) : parOk x = true ∧ parVal x = upB (fromB x (valAt x)) (valLen x) ∧ parEnd x = valAt x + valLen x := by
  unfold parOk parVal parEnd; rw [h1, h3]; simp [h2, h4]
theorem parOk_e {x : ByteArray} (h1 : hasSemi x = true) (h2 : 0 < nameLen x) (h3 : hasEq x = true) (h4 : valLen x = 0) : parOk x = decide (0 < quotedN (fromB x (valAt x))) ∧ parVal x = quotedS (fromB x (valAt x)) ∧ parEnd x = valAt x + quotedN (fromB x (valAt x)) := by
  unfold parOk parVal parEnd; rw [h1, h3, h4]; simp [h2]

end Go.Proofs.YtgamekfickheaaaGreat
