/- Connections (layer 17): how long one is kept; plain functions. -/
import Derived.Test.YthlkflneldjnjaaCna
import Derived.Test.YthlkflneldjnjaaUps
import Derived.Test.YthlkflneldjnjaaPc
namespace Go.Proofs.Ythlkflneldjnjaa
open Go.RowKit
set_option linter.unusedVariables false
set_option linter.unusedSimpArgs false

/-- Where the first = stands, or the text's end. -/
def eqN (x : ByteArray) : Nat := upTo 61 x.data.toList
def elN (x : ByteArray) : ByteArray := trimB (x.extract 0 (eqN x))
def elV (x : ByteArray) : ByteArray := trimB (x.extract (eqN x + 1) x.size)
def nmT : ByteArray := ⟨#[116, 105, 109, 101, 111, 117, 116]⟩
def nmM : ByteArray := ⟨#[109, 97, 120]⟩
/-- What one element makes of the numbers; none: it is wrong. -/
def elStep (x : ByteArray) (a : Int × Int) : Option (Int × Int) :=
  if eqN x = x.size then some a
  else if foldB (elN x) nmT = true then (if numE 10 (elV x) 1073741824 = 0 then some (numV 10 (elV x) 1073741824, a.2) else none)
  else if foldB (elN x) nmM = true then (if numE 10 (elV x) 1073741824 = 0 then some (a.1, numV 10 (elV x) 1073741824) else none)
  else some a
def alFold : List ByteArray → Int × Int → Option (Int × Int)
  | [], a => some a
  | x :: r, a => match elStep x a with
    | none => none
    | some b => alFold r b
theorem alFold_snoc : ∀ (l : List ByteArray) (x : ByteArray) (a : Int × Int), alFold (l ++ [x]) a = (alFold l a).bind (elStep x)
  | [], x, a => by
    rw [List.nil_append, alFold]
    cases h : elStep x a <;> simp [alFold, h]
  | y :: r, x, a => by
    rw [List.cons_append, alFold, alFold]
    cases h : elStep y a with
    | none => rfl
    | some b => exact alFold_snoc r x b
theorem alFold_none : ∀ (l m : List ByteArray) (a : Int × Int), alFold l a = none → alFold (l ++ m) a = none
  | [], m, a, h => by cases h
  | y :: r, m, a, h => by
    rw [alFold] at h
    rw [List.cons_append, alFold]
    cases he : elStep y a with
    | none => rfl
    | some b => rw [he] at h; exact alFold_none r m b h
def nmKeep : ByteArray := ⟨#[75, 101, 101, 112, 45, 65, 108, 105, 118, 101]⟩
/-- P17.3. -/
def alR (l : List Fld) : Option (Int × Int) := if hIs l nmKeep = true ∧ splB (hJoin (hAll l nmKeep)) = true then alFold (splL (hJoin (hAll l nmKeep))) (0, 0) else none
theorem alFold_step {L : List ByteArray} {k : Nat} {a b : Int × Int} (h : k < L.length) (h1 : alFold (L.take k) (0, 0) = some a) (h2 : elStep L[k] a = some b) : alFold (L.take (k + 1)) (0, 0) = some b := by
  rw [List.take_succ_eq_append_getElem h, alFold_snoc, h1]
  exact h2
theorem alFold_stop {L : List ByteArray} {k : Nat} {a : Int × Int} (h : k < L.length) (h1 : alFold (L.take k) (0, 0) = some a) (h2 : elStep L[k] a = none) : alFold L (0, 0) = none := by
  have h3 : alFold (L.take (k + 1)) (0, 0) = none := by
    rw [List.take_succ_eq_append_getElem h, alFold_snoc, h1]
    exact h2
  have := alFold_none _ (L.drop (k + 1)) _ h3
  rwa [List.take_append_drop] at this
end Go.Proofs.Ythlkflneldjnjaa
