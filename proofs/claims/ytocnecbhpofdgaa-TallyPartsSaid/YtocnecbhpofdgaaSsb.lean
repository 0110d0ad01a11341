/- A stable sort over arrays: what swaps, insertions and stretches that change places make of a list. -/
import Derived.Test.YtocnecbhpofdgaaSsa
import Derived.Sort.WalkA
namespace Go.Proofs.Ytocnecbhpofdgaa
open Go.Sort
set_option linter.unusedVariables false
set_option linter.unusedSectionVars false
set_option linter.unusedSimpArgs false
variable {α : Type} [Inhabited α]

theorem arr_get {d : Array α} {A R : List α} {x : α} (h : d.toList = A ++ x :: R) {i : Nat} (hi : i = A.length) : d[i]! = x := by
  subst hi
  have hs : A.length < d.size := by rw [← Array.length_toList, h]; simp
  rw [getElem!_pos d A.length hs, ← Array.getElem_toList]
  simp only [h]
  rw [List.getElem_append_right (Nat.le_refl _)]
  simp
theorem arr_size {d : Array α} {L : List α} (h : d.toList = L) : d.size = L.length := by rw [← h, Array.length_toList]
theorem list_set {A R : List α} {x y : α} : (A ++ x :: R).set A.length y = A ++ y :: R := by simp
theorem swp_list {d : Array α} {A M R : List α} {x y : α} (h : d.toList = A ++ x :: (M ++ y :: R)) {i j : Nat} (hi : i = A.length) (hj : j = A.length + (1 + M.length)) : (swp d i j).toList = A ++ y :: (M ++ x :: R) := by
  have ex : d[i]! = x := arr_get h hi
  have ey : d[j]! = y := arr_get (A := A ++ x :: M) (R := R) (by rw [h]; simp) (by simp; omega)
  unfold swp
  rw [ex, ey, Array.toList_setIfInBounds, Array.toList_setIfInBounds, h, hi, hj, list_set]
  have := list_set (A := A ++ y :: M) (R := R) (x := y) (y := x)
  have e : (A ++ y :: M).length = A.length + (1 + M.length) := by simp; omega
  rw [e] at this
  simpa using this
theorem swp_list2 {d : Array α} {A M R : List α} {x y : α} (h : d.toList = A ++ x :: (M ++ y :: R)) {i j : Nat} (hi : i = A.length) (hj : j = A.length + (1 + M.length)) : (swp d j i).toList = A ++ y :: (M ++ x :: R) := by
  have ex : d[i]! = x := arr_get h hi
  have ey : d[j]! = y := arr_get (A := A ++ x :: M) (R := R) (by rw [h]; simp) (by simp; omega)
  unfold swp
  rw [ex, ey, Array.toList_setIfInBounds, Array.toList_setIfInBounds, h, hi, hj]
  have := list_set (A := A ++ x :: M) (R := R) (x := y) (y := x)
  have e : (A ++ x :: M).length = A.length + (1 + M.length) := by simp; omega
  rw [e] at this
  have e2 : A ++ x :: M ++ y :: R = A ++ x :: (M ++ y :: R) := by simp
  rw [e2] at this
  rw [this]
  have e3 : A ++ x :: M ++ x :: R = A ++ x :: (M ++ x :: R) := by simp
  rw [e3, list_set]
/-- One that is put in place among those that are sorted. -/
theorem insInner_list {lt : α → α → Bool} (hw : Swo lt) (P Q : List α) (y : α) : ∀ (S1 S2 : List α) (d : Array α), d.toList = P ++ (S1 ++ y :: (S2 ++ Q)) → Srt lt (S1 ++ S2) → (∀ s, S2.head? = some s → lt y s = true) →
    (insInner lt P.length (P.length + S1.length) d).toList = P ++ (inS lt y (S1 ++ S2) ++ Q) := by
  intro S1
  refine snoc_ind (P := fun S1 => ∀ (S2 : List α) (d : Array α), d.toList = P ++ (S1 ++ y :: (S2 ++ Q)) → Srt lt (S1 ++ S2) → (∀ s, S2.head? = some s → lt y s = true) →
    (insInner lt P.length (P.length + S1.length) d).toList = P ++ (inS lt y (S1 ++ S2) ++ Q)) ?_ ?_ S1
  · intro S2 d hd hs h2
    rw [insInner_stop _ _ _ _ (.inl (by simp)), hd]
    have := inS_at lt y S2 h2 [] (by simp)
    rw [this]
    simp
  · intro S1 s ih S2 d hd hs h2
    have e1 : d[P.length + (S1 ++ [s]).length]! = y := arr_get (A := P ++ (S1 ++ [s])) (R := S2 ++ Q) (by rw [hd]; simp) (by simp)
    have e2 : d[P.length + (S1 ++ [s]).length - 1]! = s := arr_get (A := P ++ S1) (R := y :: (S2 ++ Q)) (by rw [hd]; simp) (by simp)
    by_cases hl : lt y s = true
    · rw [insInner_go _ _ _ _ (by simp) (by rw [e1, e2]; exact hl)]
      have e3 : P.length + (S1 ++ [s]).length - 1 = P.length + S1.length := by simp <;> omega
      have e4 : P.length + (S1 ++ [s]).length = P.length + S1.length + 1 := by simp; omega
      rw [e3, e4]
      have := ih (s :: S2) (swp d (P.length + S1.length + 1) (P.length + S1.length)) (by
        rw [swp_list2 (A := P ++ S1) (M := []) (R := S2 ++ Q) (x := s) (y := y) (by rw [hd]; simp) (by simp) (by simp; try omega)]
        simp) (by simpa using hs) (by intro t ht; cases ht; exact hl)
      rw [this]
      simp
    · have hl' : lt y s = false := by simpa using hl
      rw [insInner_stop _ _ _ _ (.inr (by rw [e1, e2]; exact hl')), hd]
      have h1 : ∀ t ∈ S1 ++ [s], lt y t = false := by
        intro t ht
        rcases List.mem_append.1 ht with ht | ht
        · have hs1 := (Srt.app hs).1
          have := (Srt.app hs1).2.2 t ht s (by simp)
          exact hw.ntr _ _ _ this hl'
        · rw [List.mem_singleton.1 ht]
          exact hl'
      rw [inS_at lt y S2 h2 _ h1]
      simp
theorem insOuter_list {lt : α → α → Bool} (hw : Swo lt) (P Q : List α) : ∀ (Y X : List α) (d : Array α), d.toList = P ++ (isrt lt X ++ (Y ++ Q)) → 0 < X.length →
    (insOuter lt P.length (P.length + X.length + Y.length) (P.length + X.length) d).toList = P ++ (isrt lt (X ++ Y) ++ Q)
  | [], X, d, hd, _ => by
    rw [insOuter_stop _ _ _ _ _ (by simp), hd]
    simp
  | y :: Y, X, d, hd, h0 => by
    rw [insOuter_go _ _ _ _ _ (by simp)]
    have e : (insInner lt P.length (P.length + X.length) d).toList = P ++ (isrt lt (X ++ [y]) ++ (Y ++ Q)) := by
      have := insInner_list hw P (Y ++ Q) y (isrt lt X) [] d (by rw [hd]; simp) (by rw [List.append_nil]; exact isrt_srt hw X) (by simp)
      rw [isrt_length, List.append_nil] at this
      rw [this, isrt_snoc]
    have := insOuter_list hw P Q Y (X ++ [y]) _ e (by simp)
    simp only [List.length_append, List.length_cons, List.length_nil, List.append_assoc, List.cons_append, List.nil_append] at this
    simp only [List.length_cons]
    have e2 : P.length + X.length + (Y.length + 1) = P.length + (X.length + (0 + 1)) + Y.length := by omega
    have e3 : P.length + X.length + 1 = P.length + (X.length + (0 + 1)) := by omega
    rw [e2, e3]
    exact this
theorem insertion_list {lt : α → α → Bool} (hw : Swo lt) (P X Q : List α) (d : Array α) (h : d.toList = P ++ (X ++ Q)) {a b : Nat} (ha : a = P.length) (hb : b = P.length + X.length) : (insertionSort lt d a b).toList = P ++ (isrt lt X ++ Q) := by
  subst ha hb
  unfold insertionSort
  cases X with
  | nil =>
    rw [insOuter_stop _ _ _ _ _ (by simp), h]
    rfl
  | cons x X =>
    have := insOuter_list hw P Q X [x] d (by rw [h, isrt_one]; simp) (by simp)
    simp only [List.length_cons, List.length_nil, List.cons_append, List.nil_append] at this
    simp only [List.length_cons]
    have e2 : P.length + (X.length + 1) = P.length + (0 + 1) + X.length := by omega
    rw [e2]
    exact this
/-- n swaps, of what stands from a on with what stands from b on. -/
def swN (d : Array α) (a b : Nat) : Nat → Array α
  | 0 => d
  | n + 1 => swp (swN d a b n) (a + n) (b + n)
theorem swN_size (d : Array α) (a b : Nat) : ∀ n, (swN d a b n).size = d.size
  | 0 => rfl
  | n + 1 => by rw [swN]; unfold swp; simp [swN_size d a b n]
theorem swN_list (P M Q : List α) : ∀ (U1 V1 U2 V2 : List α) (d : Array α), U1.length = V1.length → U2.length = V2.length → d.toList = P ++ (U1 ++ (U2 ++ (M ++ (V1 ++ (V2 ++ Q))))) →
    (swN d P.length (P.length + (U1.length + U2.length) + M.length) U1.length).toList = P ++ (V1 ++ (U2 ++ (M ++ (U1 ++ (V2 ++ Q))))) := by
  intro U1
  refine snoc_ind (P := fun U1 => ∀ (V1 U2 V2 : List α) (d : Array α), U1.length = V1.length → U2.length = V2.length → d.toList = P ++ (U1 ++ (U2 ++ (M ++ (V1 ++ (V2 ++ Q))))) →
    (swN d P.length (P.length + (U1.length + U2.length) + M.length) U1.length).toList = P ++ (V1 ++ (U2 ++ (M ++ (U1 ++ (V2 ++ Q)))))) ?_ ?_ U1
  · intro V1 U2 V2 d h1 h2 hd
    have : V1 = [] := List.length_eq_zero_iff.1 (by simpa using h1.symm)
    subst this
    simpa [swN] using hd
  · intro U1 u ih V1' U2 V2 d h1 h2 hd
    obtain ⟨V1, v, rfl⟩ : ∃ V1 v, V1' = V1 ++ [v] := by
      rcases List.eq_nil_or_concat V1' with h | ⟨V1, v, h⟩
      · subst h
        simp at h1
      · exact ⟨V1, v, by rw [h, List.concat_eq_append]⟩
    have h1' : U1.length = V1.length := by simpa using h1
    have := ih V1 (u :: U2) (v :: V2) d h1' (by simp [h2]) (by rw [hd]; simp)
    have el : (U1 ++ [u]).length = U1.length + 1 := by simp
    rw [el, swN]
    have eb : P.length + (U1.length + 1 + U2.length) + M.length = P.length + (U1.length + (u :: U2).length) + M.length := by simp; omega
    rw [eb]
    rw [swp_list (A := P ++ V1) (M := U2 ++ (M ++ U1)) (R := V2 ++ Q) (x := u) (y := v) (by rw [this]; simp) (by simp; omega) (by simp; omega)]
    simp
/-- What two stretches of one length that change places leave. -/
theorem swR_list {P U M V Q : List α} {d : Array α} (h : d.toList = P ++ (U ++ (M ++ (V ++ Q)))) (hl : U.length = V.length) {a b n : Nat} (ha : a = P.length) (hb : b = P.length + U.length + M.length) (hn : n = U.length) :
    (swN d a b n).toList = P ++ (V ++ (M ++ (U ++ Q))) := by
  subst ha hb hn
  have := swN_list P M Q U V [] [] d hl rfl (by simpa using h)
  simpa using this
end Go.Proofs.Ytocnecbhpofdgaa
