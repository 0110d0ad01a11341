/- Lines of fields (layer 9): lines that go on from others; plain functions. -/
import Derived.Test.YtcbfhlnnfnpkdaaGreatDoorFlb
namespace Go.Proofs.YtcbfhlnnfnpkdaaGreatDoor
open Go.RowKit
set_option linter.unusedVariables false
set_option linter.unusedSimpArgs false

def goesB (s : ByteArray) : Bool := decide (0 < s.size) && blankN (bt s 0)
/-- Without the blanks at its end. -/
def endL (l : List UInt8) : List UInt8 := (l.reverse.dropWhile blankC).reverse
def endB (s : ByteArray) : ByteArray := ⟨(endL s.data.toList).toArray⟩
theorem endL_snoc_yes (l : List UInt8) {c : UInt8} (h : blankC c = true) : endL (l ++ [c]) = endL l := by
  unfold endL
  rw [List.reverse_append, List.reverse_singleton, List.singleton_append, List.dropWhile_cons_of_pos h]
theorem endL_snoc_no (l : List UInt8) {c : UInt8} (h : blankC c = false) : endL (l ++ [c]) = l ++ [c] := by
  unfold endL
  rw [List.reverse_append, List.reverse_singleton, List.singleton_append, List.dropWhile_cons_of_neg (by rw [h]; decide)]
  simp
theorem endB_le (s : ByteArray) : (endB s).size ≤ s.size := by
  rw [ba_size, ba_size s]
  unfold endB endL
  have h := (List.dropWhile_sublist blankC (l := s.data.toList.reverse)).length_le
  simpa using h
theorem ext0_list (s : ByteArray) (n : Nat) : (s.extract 0 n).data.toList = s.data.toList.take n := by rw [Lib.extract_data]; simp
/-- The beginning of n octets, seen from its last one. -/
theorem endB_yes {s : ByteArray} {n : Nat} (hn : n < s.size) (h : blankN (bt s n) = true) : endB (s.extract 0 (n + 1)) = endB (s.extract 0 n) := by
  refine ba_ext ?_
  unfold endB
  have hl : n < s.data.toList.length := by rw [← ba_size]; exact hn
  have hb := bt_list s n hn
  show endL (s.extract 0 (n + 1)).data.toList = endL (s.extract 0 n).data.toList
  rw [ext0_list, ext0_list, List.take_succ_eq_append_getElem hl]
  exact endL_snoc_yes _ (by unfold blankC; rw [hb]; exact h)
theorem endB_no {s : ByteArray} {n : Nat} (hn : n < s.size) (h : blankN (bt s n) = false) : endB (s.extract 0 (n + 1)) = s.extract 0 (n + 1) := by
  refine ba_ext ?_
  unfold endB
  have hl : n < s.data.toList.length := by rw [← ba_size]; exact hn
  have hb := bt_list s n hn
  show endL (s.extract 0 (n + 1)).data.toList = (s.extract 0 (n + 1)).data.toList
  rw [ext0_list, List.take_succ_eq_append_getElem hl]
  exact endL_snoc_no _ (by unfold blankC; rw [hb]; exact h)
theorem endB_zero (s : ByteArray) : endB (s.extract 0 0) = ⟨#[]⟩ := by
  refine ba_ext ?_
  unfold endB
  show endL (s.extract 0 0).data.toList = []
  rw [ext0_list]; rfl
/-- A line behind: joined to the last one. -/
def joinT (a b : ByteArray) : ByteArray := endB a ++ ⟨#[32]⟩ ++ trimB b
theorem joinT_size (a b : ByteArray) : (joinT a b).size ≤ a.size + b.size + 1 := by
  unfold joinT
  rw [ByteArray.size_append, ByteArray.size_append]
  have h1 := endB_le a
  have h2 := trimB_size b
  have h3 : (⟨#[32]⟩ : ByteArray).size = 1 := rfl
  omega
def ufStep (fold : Int) (st : Option (List ByteArray)) (s : ByteArray) : Option (List ByteArray) :=
  match st with
  | none => none
  | some W => if goesB s = false then some (W ++ [s]) else if fold = 0 then none else
    match W.getLast? with
    | none => none
    | some a => some (W.dropLast ++ [joinT a s])
def ufAt (fold : Int) (L : List ByteArray) (k : Nat) : Option (List ByteArray) := (L.take k).foldl (ufStep fold) (some [])
theorem ufAt_zero (fold : Int) (L : List ByteArray) : ufAt fold L 0 = some [] := rfl
theorem ufAt_step {fold : Int} {L : List ByteArray} {k : Nat} (h : k < L.length) : ufAt fold L (k + 1) = ufStep fold (ufAt fold L k) L[k] := by
  unfold ufAt
  rw [List.take_succ_eq_append_getElem h, List.foldl_append]
  rfl
theorem uf_none (fold : Int) : ∀ L : List ByteArray, L.foldl (ufStep fold) none = none
  | [] => rfl
  | p :: L => by rw [List.foldl_cons]; exact uf_none fold L
theorem ufAt_none {fold : Int} {L : List ByteArray} {k : Nat} (h : ufAt fold L k = none) : ufAt fold L L.length = none := by
  unfold ufAt at *
  rw [List.take_length]
  have e : L = L.take k ++ L.drop k := (List.take_append_drop k L).symm
  conv => lhs; rw [e]
  rw [List.foldl_append, h]
  exact uf_none fold _
/-- What they are put together to, and the error. -/
def ufL (fold : Int) (L : List ByteArray) : List ByteArray := (ufAt fold L L.length).getD []
def ufE (fold : Int) (L : List ByteArray) : Int := if (ufAt fold L L.length).isSome then 0 else 3
theorem uf_good {fold : Int} {L W : List ByteArray} (h : ufAt fold L L.length = some W) : ufL fold L = W ∧ ufE fold L = 0 := by
  unfold ufL ufE
  rw [h]
  exact ⟨rfl, rfl⟩
theorem uf_bad {fold : Int} {L : List ByteArray} {k : Nat} (h : ufAt fold L k = none) : ufL fold L = [] ∧ ufE fold L = 3 := by
  unfold ufL ufE
  rw [ufAt_none h]
  exact ⟨rfl, rfl⟩
theorem ufS_new {fold : Int} {W : List ByteArray} {s : ByteArray} (h : goesB s = false) : ufStep fold (some W) s = some (W ++ [s]) := by
  show (if goesB s = false then _ else _) = _
  rw [if_pos h]
theorem ufS_zero {fold : Int} {W : List ByteArray} {s : ByteArray} (h : goesB s = true) (h0 : fold = 0 ∨ W = []) : ufStep fold (some W) s = none := by
  show (if goesB s = false then _ else if fold = 0 then _ else _) = _
  rw [if_neg (by rw [h]; decide)]
  rcases h0 with h0 | h0
  · rw [if_pos h0]
  · split
    · rfl
    · rw [h0]; rfl
theorem ufS_join {fold : Int} {W : List ByteArray} {a s : ByteArray} (h : goesB s = true) (h0 : fold ≠ 0) : ufStep fold (some (W ++ [a])) s = some (W ++ [joinT a s]) := by
  show (if goesB s = false then _ else if fold = 0 then _ else _) = _
  rw [if_neg (by rw [h]; decide), if_neg h0]
  simp
/-- How many lines, and how long: at most as many, and all together no more than these and a blank each. -/
theorem ufAt_len {fold : Int} {L : List ByteArray} : ∀ {k : Nat} {W : List ByteArray}, ufAt fold L k = some W → W.length ≤ k
  | 0, W, h => by cases h; exact Nat.le_refl _
  | k + 1, W, h => by
    by_cases hk : k < L.length
    · rw [ufAt_step hk] at h
      cases hq : ufAt fold L k with
      | none => rw [hq] at h; cases h
      | some U =>
        have ih := ufAt_len hq
        rw [hq] at h
        cases hg : goesB L[k]
        · rw [ufS_new hg] at h
          cases h
          rw [List.length_append]; simp; omega
        · rcases List.eq_nil_or_concat U with e | ⟨V, a, e⟩
          · rw [ufS_zero hg (.inr e)] at h; cases h
          · rw [List.concat_eq_append] at e
            by_cases hf : fold = 0
            · rw [ufS_zero hg (.inl hf)] at h; cases h
            · rw [e, ufS_join hg hf] at h
              cases h
              rw [e, List.length_append] at ih
              rw [List.length_append]
              simp at ih ⊢
              omega
    · have e : ufAt fold L (k + 1) = ufAt fold L k := by
        unfold ufAt
        rw [List.take_of_length_le (by omega), List.take_of_length_le (by omega)]
      rw [e] at h
      exact Nat.le_succ_of_le (ufAt_len h)
theorem ufAt_sm {fold : Int} {L : List ByteArray} {m : Nat} (hz : ∀ s ∈ L, s.size ≤ m) : ∀ {k : Nat} {W : List ByteArray}, ufAt fold L k = some W → ∀ x ∈ W, x.size ≤ k * (m + 1)
  | 0, W, h => by cases h; simp
  | k + 1, W, h => by
    by_cases hk : k < L.length
    · have hmk := hz L[k] (List.getElem_mem hk)
      have hsc : (k + 1) * (m + 1) = k * (m + 1) + (m + 1) := Nat.succ_mul ..
      rw [ufAt_step hk] at h
      cases hq : ufAt fold L k with
      | none => rw [hq] at h; cases h
      | some U =>
        have ih := ufAt_sm hz hq
        rw [hq] at h
        cases hg : goesB L[k]
        · rw [ufS_new hg] at h
          cases h
          intro x hx
          rcases List.mem_append.1 hx with hx | hx
          · have := ih x hx; omega
          · simp at hx; subst hx; omega
        · rcases List.eq_nil_or_concat U with e | ⟨V, a, e⟩
          · rw [ufS_zero hg (.inr e)] at h; cases h
          · rw [List.concat_eq_append] at e
            by_cases hf : fold = 0
            · rw [ufS_zero hg (.inl hf)] at h; cases h
            · rw [e, ufS_join hg hf] at h
              cases h
              intro x hx
              rw [e] at ih
              rcases List.mem_append.1 hx with hx | hx
              · have := ih x (List.mem_append_left _ hx); omega
              · simp at hx; subst hx
                have h1 := ih a (by simp)
                have h2 := joinT_size a L[k]
                omega
    · have e : ufAt fold L (k + 1) = ufAt fold L k := by
        unfold ufAt
        rw [List.take_of_length_le (by omega), List.take_of_length_le (by omega)]
      rw [e] at h
      intro x hx
      have h1 := ufAt_sm hz h x hx
      have hsc : (k + 1) * (m + 1) = k * (m + 1) + (m + 1) := Nat.succ_mul ..
      omega
end Go.Proofs.YtcbfhlnnfnpkdaaGreatDoor
