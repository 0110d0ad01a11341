/- Bodies (layer 25): plain: what a body is written as. -/
import Derived.Test.YtpgnekejemockaaEna
import Derived.Test.YtpgnekejemockaaFlb
import Derived.Test.YtpgnekejemockaaFew
import Derived.Deep.DeepCutAuto
namespace Go.Proofs.Ytpgnekejemockaa
open Go.RowKit
set_option linter.unusedVariables false
set_option linter.unusedSimpArgs false

def crlf : ByteArray := ⟨#[13, 10]⟩
theorem crlf_eq : (⟨#[13, 10]⟩ : ByteArray) = crlf := rfl
theorem crlf_size : crlf.size = 2 := rfl
def begS (n : Int) : ByteArray := if n < 1 then ⟨#[]⟩ else lineS n
theorem lineS_size (n : Int) : (lineS n).size ≤ 22 := by
  unfold lineS
  split
  · decide
  · rw [ByteArray.size_append, ofL_size]
    have := hexL_len n
    have e : (⟨#[13, 10]⟩ : ByteArray).size = 2 := rfl
    omega
theorem begS_size (n : Int) : (begS n).size ≤ 22 := by
  unfold begS
  split
  · decide
  · exact lineS_size n
/-- Trailers' lines. -/
def trlF (t : ByteArray) (l : List Fld) : ByteArray := l.foldl (fun t p => t ++ (fLine p.1 p.2 ++ crlf)) t
theorem trlF_snoc (t : ByteArray) (l : List Fld) (p : Fld) : trlF t (l ++ [p]) = trlF t l ++ (fLine p.1 p.2 ++ crlf) := by simp [trlF, List.foldl_append]
theorem trlF_take {t : ByteArray} {l : List Fld} {k : Nat} (h : k < l.length) : trlF t (l.take (k + 1)) = trlF t (l.take k) ++ (fLine l[k].1 l[k].2 ++ crlf) := by
  rw [List.take_succ_eq_append_getElem h, trlF_snoc]
theorem fLine_size {n v : ByteArray} : (fLine n v).size ≤ n.size + v.size + 2 := by
  unfold fLine
  have e1 : (⟨#[58]⟩ : ByteArray).size = 1 := rfl
  have e2 : (⟨#[58, 32]⟩ : ByteArray).size = 2 := rfl
  split
  · rw [ByteArray.size_append]; omega
  · rw [ByteArray.size_append, ByteArray.size_append]; omega
theorem trlF_size (t : ByteArray) : ∀ (l : List Fld) (h : ∀ p ∈ l, p.1.size ≤ 100 ∧ p.2.size ≤ 300), (trlF t l).size ≤ t.size + 404 * l.length := by
  intro l h
  have key : ∀ k, k ≤ l.length → (trlF t (l.take k)).size ≤ t.size + 404 * k := by
    intro k
    induction k with
    | zero => intro _; simp [trlF]
    | succ k ih =>
      intro hk
      rw [trlF_take (by omega), ByteArray.size_append, ByteArray.size_append, crlf_size]
      have h1 := ih (by omega)
      have h2 := h (l[k]'(by omega)) (List.getElem_mem _)
      have h3 := fLine_size (n := (l[k]'(by omega)).1) (v := (l[k]'(by omega)).2)
      omega
  have := key l.length (Nat.le_refl _)
  rwa [List.take_length] at this
def lstF (l : List Fld) : ByteArray := trlF (lineS 0) l ++ crlf
/-- Whether sizes are just so many octets. -/
def cutOk : List Int → Int → Bool
  | [], left => decide (left = 0)
  | n :: t, left => decide (1 ≤ n) && decide (n ≤ left) && cutOk t (left - n)
/-- The parts of these sizes. -/
def cutL (s : ByteArray) : Nat → List Int → List ByteArray
  | _, [] => []
  | k, n :: t => s.extract k (k + n.toNat) :: cutL s (k + n.toNat) t
def pieS (x : ByteArray) : ByteArray := begS x.size ++ x ++ crlf
def chS (xs : List ByteArray) : ByteArray := xs.foldl (fun t x => t ++ pieS x) ⟨#[]⟩
theorem chS_snoc (xs : List ByteArray) (x : ByteArray) : chS (xs ++ [x]) = chS xs ++ pieS x := by simp [chS, List.foldl_append]
def sumZ (l : List Int) : Int := l.sum
theorem cutOk_take : ∀ {l : List Int} {left : Int} {k : Nat}, cutOk l left = true → (h : k < l.length) → 1 ≤ l[k] ∧ sumZ (l.take k) + l[k] ≤ left ∧ (k : Int) ≤ sumZ (l.take k)
  | n :: t, left, 0, h, _ => by
    simp [cutOk] at h
    simp [sumZ]
    omega
  | n :: t, left, k + 1, h, hk => by
    simp [cutOk] at h
    have ih := cutOk_take (l := t) (left := left - n) (k := k) h.2 (by simpa using hk)
    have e : sumZ ((n :: t).take (k + 1)) = n + sumZ (t.take k) := by simp [sumZ]
    rw [e]
    simp only [List.getElem_cons_succ]
    omega
theorem cutOk_all {l : List Int} : ∀ {left : Int}, cutOk l left = true → sumZ l = left := by
  induction l with
  | nil => intro left h; simp [cutOk] at h; simp [sumZ]; omega
  | cons n t ih =>
    intro left h
    simp [cutOk] at h
    have := ih h.2
    have e : sumZ (n :: t) = n + sumZ t := by simp [sumZ]
    rw [e]
    omega
theorem sumZ_take {l : List Int} {k : Nat} (h : k < l.length) : sumZ (l.take (k + 1)) = sumZ (l.take k) + l[k] := by
  unfold sumZ
  rw [List.take_succ_eq_append_getElem h, List.sum_append, List.sum_singleton]
theorem cutL_snoc (s : ByteArray) : ∀ (l : List Int) (k : Nat) (n : Int), (∀ x ∈ l, 0 ≤ x) → cutL s k (l ++ [n]) = cutL s k l ++ [s.extract (k + (sumZ l).toNat) (k + (sumZ l).toNat + n.toNat)]
  | [], k, n, _ => by simp [cutL, sumZ]
  | m :: l, k, n, h => by
    have h0 := h m (by simp)
    have h1 : 0 ≤ sumZ l := by
      have hl : ∀ x ∈ l, 0 ≤ x := fun x hx => h x (List.mem_cons_of_mem _ hx)
      clear h
      induction l with
      | nil => simp [sumZ]
      | cons a l ih =>
        have := ih fun x hx => hl x (List.mem_cons_of_mem _ hx)
        have := hl a (by simp)
        have e : sumZ (a :: l) = a + sumZ l := by simp [sumZ]
        omega
    simp only [List.cons_append, cutL]
    rw [cutL_snoc s l _ n fun x hx => h x (List.mem_cons_of_mem _ hx)]
    have e : sumZ (m :: l) = m + sumZ l := by simp [sumZ]
    have e2 : (sumZ (m :: l)).toNat = m.toNat + (sumZ l).toNat := by omega
    rw [e2, Nat.add_assoc]
/-- What stands in the way. -/
def fitB (kind ln : Int) (sizes : List Int) (s : ByteArray) : Bool :=
  if ln < 0 then false else if kind = 0 then decide (s.size = 0) else if kind = 1 then decide (ln = (s.size : Int)) else if kind = 2 then cutOk sizes (s.size : Int) else decide (kind = 3)
def anyW (l : List Fld) : Bool := l.any fun p => !fRight p.1 p.2
def bdE (kind ln : Int) (sizes : List Int) (s : ByteArray) (l : List Fld) : Int :=
  if fitB kind ln sizes s = false ∨ (kind ≠ 2 ∧ 0 < sizes.length + l.length) then 14 else if anyW l = true then 7 else 0
def bdT (kind ln : Int) (sizes : List Int) (s : ByteArray) (l : List Fld) : ByteArray :=
  if bdE kind ln sizes s l ≠ 0 then ⟨#[]⟩ else if kind ≠ 2 then s else chS (cutL s 0 sizes) ++ lstF l
end Go.Proofs.Ytpgnekejemockaa
