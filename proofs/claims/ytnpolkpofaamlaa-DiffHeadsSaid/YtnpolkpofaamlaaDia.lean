/- How lists of lines differ (layer 51): plain facts: the longest common part, from either end; the rows; rows applied, and turned. -/
import Derived.Test.YtnpolkpofaamlaaProg
namespace Go.Proofs.Ytnpolkpofaamlaa
set_option linter.unusedVariables false
set_option linter.unusedSimpArgs false

abbrev Ln := List ByteArray
/-- How long the longest common part is. -/
def lcs : Ln → Ln → Nat
  | [], _ => 0
  | _ :: _, [] => 0
  | x :: a, y :: b => if x = y then lcs a b + 1 else max (lcs a (y :: b)) (lcs (x :: a) b)
termination_by a b => a.length + b.length
theorem lcs_nil_l (b : Ln) : lcs [] b = 0 := by unfold lcs; rfl
theorem lcs_nil_r (a : Ln) : lcs a [] = 0 := by cases a <;> (unfold lcs; rfl)
theorem lcs_cons (x y : ByteArray) (a b : Ln) : lcs (x :: a) (y :: b) = if x = y then lcs a b + 1 else max (lcs a (y :: b)) (lcs (x :: a) b) := by conv => lhs; unfold lcs
theorem sub_tail {z : ByteArray} {l a : Ln} {x : ByteArray} (h : (z :: l).Sublist (x :: a)) : l.Sublist a := by
  cases h with
  | cons _ h => exact (List.sublist_cons_self z l).trans h
  | cons_cons _ h => exact h
theorem sub_skip {x y : ByteArray} {l b : Ln} (hne : x ≠ y) (h : (x :: l).Sublist (y :: b)) : (x :: l).Sublist b := by
  cases h with
  | cons _ h => exact h
  | cons_cons _ h => exact (hne rfl).elim
theorem lcs_ge : ∀ (n : Nat) (a b l : Ln), a.length + b.length ≤ n → l.Sublist a → l.Sublist b → l.length ≤ lcs a b := by
  intro n
  induction n with
  | zero =>
    intro a b l hn h1 h2
    have := h1.length_le
    omega
  | succ n ih =>
    intro a b l hn h1 h2
    match a, b, hn, h1, h2 with
    | [], b, _, h1, _ =>
      have := h1.length_le
      simp at this
      simp [this]
    | x :: a, [], _, _, h2 =>
      have := h2.length_le
      simp at this
      simp [this]
    | x :: a, y :: b, hn, h1, h2 =>
      rw [lcs_cons]
      simp only [List.length_cons] at hn
      by_cases e : x = y
      · rw [if_pos e]
        cases l with
        | nil => simp
        | cons z l =>
          have := ih a b l (by omega) (sub_tail h1) (sub_tail h2)
          simp only [List.length_cons]
          omega
      · rw [if_neg e]
        cases h1 with
        | cons _ h =>
          have := ih a (y :: b) l (by simp only [List.length_cons]; omega) h h2
          omega
        | cons_cons _ h =>
          rename_i l _
          have := ih (x :: a) b (x :: l) (by simp only [List.length_cons]; omega) (h.cons_cons x) (sub_skip e h2)
          omega
theorem lcs_ex : ∀ (n : Nat) (a b : Ln), a.length + b.length ≤ n → ∃ l : Ln, l.Sublist a ∧ l.Sublist b ∧ l.length = lcs a b := by
  intro n
  induction n with
  | zero =>
    intro a b hn
    have : a = [] := List.eq_nil_of_length_eq_zero (by omega)
    subst this
    exact ⟨[], List.Sublist.refl _, List.nil_sublist _, by rw [lcs_nil_l]; rfl⟩
  | succ n ih =>
    intro a b hn
    match a, b, hn with
    | [], b, _ => exact ⟨[], List.Sublist.refl _, List.nil_sublist _, by rw [lcs_nil_l]; rfl⟩
    | x :: a, [], _ => exact ⟨[], List.nil_sublist _, List.Sublist.refl _, by rw [lcs_nil_r]; rfl⟩
    | x :: a, y :: b, hn =>
      rw [lcs_cons]
      simp only [List.length_cons] at hn
      by_cases e : x = y
      · rw [if_pos e]
        subst e
        obtain ⟨l, h1, h2, h3⟩ := ih a b (by omega)
        exact ⟨x :: l, h1.cons_cons x, h2.cons_cons x, by simp [h3]⟩
      · rw [if_neg e]
        obtain ⟨l, h1, h2, h3⟩ := ih a (y :: b) (by simp only [List.length_cons]; omega)
        obtain ⟨m, k1, k2, k3⟩ := ih (x :: a) b (by simp only [List.length_cons]; omega)
        by_cases hm : lcs a (y :: b) ≤ lcs (x :: a) b
        · exact ⟨m, k1, k2.cons y, by omega⟩
        · exact ⟨l, h1.cons x, h2, by omega⟩
theorem lcs_rev (a b : Ln) : lcs a.reverse b.reverse = lcs a b := by
  obtain ⟨l, h1, h2, h3⟩ := lcs_ex _ a b (Nat.le_refl _)
  obtain ⟨m, k1, k2, k3⟩ := lcs_ex _ a.reverse b.reverse (Nat.le_refl _)
  have g1 := lcs_ge _ a.reverse b.reverse l.reverse (Nat.le_refl _) h1.reverse h2.reverse
  have g2 := lcs_ge _ a b m.reverse (Nat.le_refl _) (by simpa using k1.reverse) (by simpa using k2.reverse)
  rw [List.length_reverse] at g1 g2
  omega
theorem lcs_le_l (a b : Ln) : lcs a b ≤ a.length := by
  obtain ⟨l, h1, h2, h3⟩ := lcs_ex _ a b (Nat.le_refl _)
  have := h1.length_le
  omega
theorem lcs_le_r (a b : Ln) : lcs a b ≤ b.length := by
  obtain ⟨l, h1, h2, h3⟩ := lcs_ex _ a b (Nat.le_refl _)
  have := h2.length_le
  omega
/-- As the document counts it: from the beginnings. -/
def lcP (a b : Ln) (i k : Nat) : Nat := lcs (a.take i).reverse (b.take k).reverse
theorem lcP_zero_l (a b : Ln) (k : Nat) : lcP a b 0 k = 0 := by unfold lcP; rw [List.take_zero]; exact lcs_nil_l _
theorem lcP_zero_r (a b : Ln) (i : Nat) : lcP a b i 0 = 0 := by unfold lcP; rw [List.take_zero]; exact lcs_nil_r _
theorem lcP_step {a b : Ln} {i k : Nat} (hi : i < a.length) (hk : k < b.length) : lcP a b (i + 1) (k + 1) = if a[i] = b[k] then lcP a b i k + 1 else max (lcP a b i (k + 1)) (lcP a b (i + 1) k) := by
  unfold lcP
  rw [List.take_succ_eq_append_getElem hi, List.take_succ_eq_append_getElem hk, List.reverse_append, List.reverse_append, List.reverse_singleton, List.reverse_singleton, List.singleton_append, List.singleton_append, lcs_cons]
theorem lcP_all (a b : Ln) : lcP a b a.length b.length = lcs a b := by
  unfold lcP
  rw [List.take_length, List.take_length, lcs_rev]
theorem lcP_le (a b : Ln) (i k : Nat) : lcP a b i k ≤ a.length := by
  have := lcs_le_l (a.take i).reverse (b.take k).reverse
  rw [List.length_reverse, List.length_take] at this
  unfold lcP
  omega
/-- As the program counts it: from the ends. -/
def lcS (a b : Ln) (i j : Nat) : Nat := lcs (a.drop i) (b.drop j)
theorem lcS_end_l (a b : Ln) (j : Nat) : lcS a b a.length j = 0 := by unfold lcS; rw [List.drop_length]; exact lcs_nil_l _
theorem lcS_end_r (a b : Ln) (i : Nat) : lcS a b i b.length = 0 := by unfold lcS; rw [List.drop_length]; exact lcs_nil_r _
theorem lcS_step {a b : Ln} {i j : Nat} (hi : i < a.length) (hj : j < b.length) : lcS a b i j = if a[i] = b[j] then lcS a b (i + 1) (j + 1) + 1 else max (lcS a b (i + 1) j) (lcS a b i (j + 1)) := by
  unfold lcS
  conv => lhs; rw [List.drop_eq_getElem_cons hi, List.drop_eq_getElem_cons hj, lcs_cons]
  rw [← List.drop_eq_getElem_cons hi, ← List.drop_eq_getElem_cons hj]
theorem lcS_le (a b : Ln) (i j : Nat) : lcS a b i j ≤ a.length := by
  have := lcs_le_l (a.drop i) (b.drop j)
  rw [List.length_drop] at this
  unfold lcS
  omega
/-- A line, and what became of it: 0 the same, 1 gone, 2 new. -/
abbrev Dr := Int × ByteArray
def dfL : Ln → Ln → List Dr
  | [], [] => []
  | x :: a, [] => (1, x) :: dfL a []
  | [], y :: b => (2, y) :: dfL [] b
  | x :: a, y :: b => if x = y then (0, x) :: dfL a b else if lcs (x :: a) b ≤ lcs a (y :: b) then (1, x) :: dfL a (y :: b) else (2, y) :: dfL (x :: a) b
termination_by a b => a.length + b.length
theorem dfL_nil : dfL [] [] = [] := by unfold dfL; rfl
theorem dfL_gone (x : ByteArray) (a : Ln) : dfL (x :: a) [] = (1, x) :: dfL a [] := by conv => lhs; unfold dfL
theorem dfL_new (y : ByteArray) (b : Ln) : dfL [] (y :: b) = (2, y) :: dfL [] b := by conv => lhs; unfold dfL
theorem dfL_cons (x y : ByteArray) (a b : Ln) : dfL (x :: a) (y :: b) = if x = y then (0, x) :: dfL a b else if lcs (x :: a) b ≤ lcs a (y :: b) then (1, x) :: dfL a (y :: b) else (2, y) :: dfL (x :: a) b := by conv => lhs; unfold dfL
/-- What follows of where one stands. -/
theorem dfL_at {a b : Ln} {i j : Nat} : dfL (a.drop i) (b.drop j) =
    if h1 : i < a.length then
      if h2 : j < b.length then
        if a[i] = b[j] then (0, a[i]) :: dfL (a.drop (i + 1)) (b.drop (j + 1))
        else if lcS a b i (j + 1) ≤ lcS a b (i + 1) j then (1, a[i]) :: dfL (a.drop (i + 1)) (b.drop j) else (2, b[j]) :: dfL (a.drop i) (b.drop (j + 1))
      else (1, a[i]) :: dfL (a.drop (i + 1)) (b.drop j)
    else if h2 : j < b.length then (2, b[j]) :: dfL (a.drop i) (b.drop (j + 1)) else [] := by
  by_cases h1 : i < a.length
  · rw [dif_pos h1]
    by_cases h2 : j < b.length
    · rw [dif_pos h2]
      conv => lhs; rw [List.drop_eq_getElem_cons h1, List.drop_eq_getElem_cons h2, dfL_cons]
      rw [← List.drop_eq_getElem_cons h1, ← List.drop_eq_getElem_cons h2]
      rfl
    · rw [dif_neg h2, show b.drop j = [] from List.drop_eq_nil_of_le (by omega), List.drop_eq_getElem_cons h1, dfL_gone]
  · rw [dif_neg h1]
    by_cases h2 : j < b.length
    · rw [dif_pos h2, show a.drop i = [] from List.drop_eq_nil_of_le (by omega), List.drop_eq_getElem_cons h2, dfL_new]
    · rw [dif_neg h2, show a.drop i = [] from List.drop_eq_nil_of_le (by omega), show b.drop j = [] from List.drop_eq_nil_of_le (by omega), dfL_nil]
theorem dfL_ind {P : Ln → Ln → Prop} (h0 : P [] []) (h1 : ∀ x a, P a [] → P (x :: a) []) (h2 : ∀ y b, P [] b → P [] (y :: b)) (h3 : ∀ x a b, P a b → P (x :: a) (x :: b))
    (h4 : ∀ x y a b, P a (y :: b) → P (x :: a) b → x ≠ y → P (x :: a) (y :: b)) : ∀ (n : Nat) (a b : Ln), a.length + b.length ≤ n → P a b := by
  intro n
  induction n with
  | zero =>
    intro a b hn
    have e1 : a = [] := List.eq_nil_of_length_eq_zero (by omega)
    have e2 : b = [] := List.eq_nil_of_length_eq_zero (by omega)
    subst e1 e2
    exact h0
  | succ n ih =>
    intro a b hn
    match a, b, hn with
    | [], [], _ => exact h0
    | x :: a, [], hn => exact h1 x a (ih _ _ (by simp only [List.length_cons] at hn ⊢; omega))
    | [], y :: b, hn => exact h2 y b (ih _ _ (by simp only [List.length_cons] at hn ⊢; omega))
    | x :: a, y :: b, hn =>
      simp only [List.length_cons] at hn
      by_cases e : x = y
      · subst e
        exact h3 x a b (ih _ _ (by omega))
      · exact h4 x y a b (ih _ _ (by simp only [List.length_cons]; omega)) (ih _ _ (by simp only [List.length_cons]; omega)) e
theorem dfL_len (a b : Ln) : (dfL a b).length ≤ a.length + b.length := by
  refine dfL_ind (P := fun a b => (dfL a b).length ≤ a.length + b.length) ?_ ?_ ?_ ?_ ?_ _ a b (Nat.le_refl _)
  · rw [dfL_nil]; simp
  · intro x a h; rw [dfL_gone]; simp only [List.length_cons] at *; omega
  · intro y b h; rw [dfL_new]; simp only [List.length_cons] at *; omega
  · intro x a b h; rw [dfL_cons, if_pos rfl]; simp only [List.length_cons] at *; omega
  · intro x y a b h1 h2 hne
    rw [dfL_cons, if_neg hne]
    split <;> simp only [List.length_cons] at * <;> omega
/-- The lines ahead, and behind, that rows tell of. -/
def frL (l : List Dr) : Ln := (l.filter fun r => r.1 != 2).map (·.2)
def toL (l : List Dr) : Ln := (l.filter fun r => r.1 != 1).map (·.2)
def okL (l : List Dr) : Bool := l.all fun r => r.1 == 0 || r.1 == 1 || r.1 == 2
def trI (s : Int) : Int := if s = 1 then 2 else if s = 2 then 1 else s
def trL (l : List Dr) : List Dr := l.map fun r => (trI r.1, r.2)
theorem dfL_ok (a b : Ln) : okL (dfL a b) = true ∧ frL (dfL a b) = a ∧ toL (dfL a b) = b := by
  refine dfL_ind (P := fun a b => okL (dfL a b) = true ∧ frL (dfL a b) = a ∧ toL (dfL a b) = b) ?_ ?_ ?_ ?_ ?_ _ a b (Nat.le_refl _)
  · rw [dfL_nil]; exact ⟨rfl, rfl, rfl⟩
  · rintro x a ⟨h1, h2, h3⟩
    rw [dfL_gone]
    exact ⟨by simp only [okL, List.all_cons] at h1 ⊢; simp [h1], by simp only [frL] at h2 ⊢; simp [h2], by simp only [toL] at h3 ⊢; simp [h3]⟩
  · rintro y b ⟨h1, h2, h3⟩
    rw [dfL_new]
    exact ⟨by simp only [okL, List.all_cons] at h1 ⊢; simp [h1], by simp only [frL] at h2 ⊢; simp [h2], by simp only [toL] at h3 ⊢; simp [h3]⟩
  · rintro x a b ⟨h1, h2, h3⟩
    rw [dfL_cons, if_pos rfl]
    exact ⟨by simp only [okL, List.all_cons] at h1 ⊢; simp [h1], by simp only [frL] at h2 ⊢; simp [h2], by simp only [toL] at h3 ⊢; simp [h3]⟩
  · rintro x y a b ⟨h1, h2, h3⟩ ⟨k1, k2, k3⟩ hne
    rw [dfL_cons, if_neg hne]
    split
    · exact ⟨by simp only [okL, List.all_cons] at h1 ⊢; simp [h1], by simp only [frL] at h2 ⊢; simp [h2], by simp only [toL] at h3 ⊢; simp [h3]⟩
    · exact ⟨by simp only [okL, List.all_cons] at k1 ⊢; simp [k1], by simp only [frL] at k2 ⊢; simp [k2], by simp only [toL] at k3 ⊢; simp [k3]⟩
theorem okL_cons (r : Dr) (l : List Dr) : okL (r :: l) = ((r.1 == 0 || r.1 == 1 || r.1 == 2) && okL l) := rfl
theorem frL_cons (r : Dr) (l : List Dr) : frL (r :: l) = if r.1 != 2 then r.2 :: frL l else frL l := by
  unfold frL
  rw [List.filter_cons]
  split <;> rfl
theorem toL_cons (r : Dr) (l : List Dr) : toL (r :: l) = if r.1 != 1 then r.2 :: toL l else toL l := by
  unfold toL
  rw [List.filter_cons]
  split <;> rfl
theorem tr_ok {l : List Dr} (h : okL l = true) : okL (trL l) = true ∧ frL (trL l) = toL l ∧ toL (trL l) = frL l := by
  induction l with
  | nil => exact ⟨rfl, rfl, rfl⟩
  | cons r l ih =>
    unfold okL at h
    rw [List.all_cons, Bool.and_eq_true] at h
    obtain ⟨i1, i2, i3⟩ := ih h.2
    obtain ⟨s, t⟩ := r
    have hs : s = 0 ∨ s = 1 ∨ s = 2 := by have := h.1; simp at this; omega
    have f1 : trL ((s, t) :: l) = (trI s, t) :: trL l := rfl
    rw [f1, okL_cons, frL_cons, toL_cons, frL_cons, toL_cons, i1, i2, i3]
    rcases hs with rfl | rfl | rfl <;> exact ⟨rfl, rfl, rfl⟩
/-- A list and itself. -/
theorem dfL_own : ∀ a : Ln, dfL a a = a.map fun x => (0, x)
  | [] => dfL_nil
  | x :: a => by rw [dfL_cons, if_pos rfl, dfL_own a]; rfl
end Go.Proofs.Ytnpolkpofaamlaa
