/- Texts read from their beginning, as plain functions (layer 4). -/
import Derived.Test.YtjocmjmfkgogiaaPb
namespace Go.Proofs.Ytjocmjmfkgogiaa
open Go.RowKit
set_option linter.unusedVariables false
set_option linter.unusedSimpArgs false

/-- How many octets come first that fit. -/
def preL (P : Nat → Bool) (l : List UInt8) : Nat := (l.takeWhile fun c => P c.toNat).length
def preN (P : Nat → Bool) (s : ByteArray) : Nat := preL P s.data.toList
theorem preL_le (P : Nat → Bool) (l : List UInt8) : preL P l ≤ l.length := by
  unfold preL
  induction l with
  | nil => simp
  | cons c l ih => rw [List.takeWhile_cons]; split <;> simp <;> omega
theorem preN_le (P : Nat → Bool) (s : ByteArray) : preN P s ≤ s.size := by rw [ba_size]; exact preL_le P _
theorem preL_of (P : Nat → Bool) : ∀ (l : List UInt8) (k : Nat), k ≤ l.length → (∀ j (h : j < l.length), j < k → P (l[j]).toNat = true) → (k = l.length ∨ ∃ h : k < l.length, P (l[k]).toNat = false) → preL P l = k
  | [], k, h, _, _ => by simp at h; subst h; rfl
  | c :: l, 0, _, _, h => by
    rcases h with h | ⟨_, h⟩
    · simp at h
    · unfold preL; rw [List.takeWhile_cons]; simp at h; simp [h]
  | c :: l, k + 1, hk, h1, h2 => by
    have h0 := h1 0 (by simp) (by omega)
    have ih := preL_of P l k (by simp at hk; omega) (fun j h hj => by have := h1 (j + 1) (by simp; omega) (by omega); simpa using this) (by
      rcases h2 with h2 | ⟨h, h2⟩
      · left; simp at h2; omega
      · right; exact ⟨by simp at h; omega, by simpa using h2⟩)
    unfold preL at *
    rw [List.takeWhile_cons]
    simp at h0
    simp [h0, ih]
theorem preN_of {P : Nat → Bool} {s : ByteArray} {k : Nat} (hk : k ≤ s.size) (h1 : ∀ j, j < k → P (bt s j) = true) (h2 : k = s.size ∨ (k < s.size ∧ P (bt s k) = false)) : preN P s = k := by
  unfold preN
  refine preL_of P _ k (by rw [← ba_size]; exact hk) (fun j h hj => by rw [bt_list s j (by omega)]; exact h1 j hj) ?_
  rcases h2 with h2 | ⟨h, h2⟩
  · left; rw [← ba_size]; exact h2
  · right; exact ⟨by rw [← ba_size]; exact h, by rw [bt_list s k h]; exact h2⟩
theorem preN_in {P : Nat → Bool} {s : ByteArray} {j : Nat} (h : j < preN P s) : P (bt s j) = true := by
  have hs : j < s.size := by have := preN_le P s; omega
  have key : ∀ (l : List UInt8) (j : Nat) (hj : j < l.length), j < preL P l → P (l[j]).toNat = true := by
    intro l
    induction l with
    | nil => intro j hj; simp at hj
    | cons c l ih =>
      intro j hj hp
      unfold preL at hp
      rw [List.takeWhile_cons] at hp
      split at hp
      · rename_i hc
        cases j with
        | zero => simpa using hc
        | succ j => simpa using ih j (by simp at hj; omega) (by unfold preL; simp at hp; omega)
      · simp at hp
  have := key s.data.toList j (by rw [← ba_size]; exact hs) h
  rwa [bt_list s j hs] at this
theorem preN_stop {P : Nat → Bool} {s : ByteArray} (h : preN P s < s.size) : P (bt s (preN P s)) = false := by
  have key : ∀ (l : List UInt8) (hj : preL P l < l.length), P (l[preL P l]).toNat = false := by
    intro l
    induction l with
    | nil => intro hj; simp at hj
    | cons c l ih =>
      intro hj
      cases hc : P c.toNat
      · have h0 : preL P (c :: l) = 0 := by unfold preL; rw [List.takeWhile_cons]; simp [hc]
        simp only [h0]; simpa using hc
      · have h0 : preL P (c :: l) = preL P l + 1 := by unfold preL; rw [List.takeWhile_cons]; simp [hc]
        simp only [h0]
        have := ih (by rw [h0] at hj; simp at hj; omega)
        simpa using this
  have h' : preL P s.data.toList < s.size := h
  have := key s.data.toList (by rw [← ba_size]; exact h)
  rw [bt_list s _ h'] at this
  exact this

/-- What is left behind the first n octets. -/
def fromB (s : ByteArray) (n : Nat) : ByteArray := s.extract n s.size
theorem fromB_list (s : ByteArray) (n : Nat) : (fromB s n).data.toList = s.data.toList.drop n := by unfold fromB; rw [Lib.extract_to_end]
theorem fromB_size (s : ByteArray) (n : Nat) : (fromB s n).size = s.size - n := by rw [ba_size, fromB_list, List.length_drop, ← ba_size]
theorem fromB_zero (s : ByteArray) : fromB s 0 = s := ba_ext (by rw [fromB_list, List.drop_zero])
theorem fromB_from (s : ByteArray) (a b : Nat) : fromB (fromB s a) b = fromB s (a + b) := ba_ext (by rw [fromB_list, fromB_list, fromB_list, List.drop_drop])
theorem fromB_bt (s : ByteArray) (n j : Nat) (h : n + j < s.size) : bt (fromB s n) j = bt s (n + j) := by
  have h1 : j < (fromB s n).size := by rw [fromB_size]; omega
  rw [← bt_list _ _ h1, ← bt_list _ _ h]
  simp [fromB_list]
/-- The first n octets. -/
def upB (s : ByteArray) (n : Nat) : ByteArray := s.extract 0 n
theorem upB_list (s : ByteArray) (n : Nat) : (upB s n).data.toList = s.data.toList.take n := by unfold upB; rw [Lib.extract_data]; simp
theorem upB_all (s : ByteArray) : upB s s.size = s := ba_ext (by rw [upB_list, List.take_of_length_le (by rw [← ba_size]; omega)])
theorem upB_zero (s : ByteArray) : upB s 0 = ⟨#[]⟩ := ba_ext (by rw [upB_list]; rfl)
theorem upB_size (s : ByteArray) (n : Nat) : (upB s n).size = min n s.size := by rw [ba_size, upB_list, List.length_take, ← ba_size]

/-! ### Quoted texts -/
/-- A quoted text's inner part: the plain one and how many octets were read; acc, n: so far. -/
def qread : List UInt8 → List UInt8 → Nat → Option (List UInt8 × Nat)
  | [], _, _ => none
  | [c], acc, n => if c.toNat = 34 then some (acc, n + 1) else none
  | c :: d :: r, acc, n =>
    if c.toNat = 34 then some (acc, n + 1)
    else if c.toNat = 92 then (if valueB d.toNat then qread r (acc ++ [d]) (n + 2) else none)
    else if valueB c.toNat then qread (d :: r) (acc ++ [c]) (n + 1) else none
def quotedL (l : List UInt8) : Option (List UInt8 × Nat) := match l with
  | [] => none
  | c :: r => if c.toNat = 34 then qread r [] 1 else none
/-- The plain text, nothing if there is none; how many octets, 0 if there is none. -/
def quotedS (s : ByteArray) : ByteArray := match quotedL s.data.toList with
  | some (l, _) => ⟨l.toArray⟩
  | none => ⟨#[]⟩
def quotedN (s : ByteArray) : Nat := match quotedL s.data.toList with
  | some (_, n) => n
  | none => 0
theorem qread_bound : ∀ (l acc : List UInt8) (n : Nat) (x : List UInt8 × Nat), qread l acc n = some x → n < x.2 ∧ x.2 ≤ n + l.length ∧ x.1.length + n < acc.length + x.2
  | [], _, _, _, h => by simp [qread] at h
  | [c], acc, n, x, h => by
    unfold qread at h
    split at h
    · cases h; simp
    · cases h
  | c :: d :: r, acc, n, x, h => by
    unfold qread at h
    split at h
    · cases h; simp
    · split at h
      · split at h
        · have := qread_bound r _ _ x h; simp at this ⊢; omega
        · cases h
      · split at h
        · have := qread_bound (d :: r) _ _ x h; simp at this ⊢; omega
        · cases h
theorem quotedN_le (s : ByteArray) : quotedN s ≤ s.size := by
  unfold quotedN
  cases h : quotedL s.data.toList with
  | none => simp
  | some x =>
    obtain ⟨l, n⟩ := x
    rw [ba_size]
    cases hl : s.data.toList with
    | nil => rw [hl] at h; simp [quotedL] at h
    | cons c r =>
      rw [hl] at h
      simp only [quotedL] at h
      split at h
      · have := qread_bound _ _ _ _ h; simp at this ⊢; omega
      · cases h

/-! ### Texts that are quoted -/
def escC (c : UInt8) : List UInt8 := if c.toNat = 34 ∨ c.toNat = 92 then [92, c] else [c]
def escL (l : List UInt8) : List UInt8 := l.flatMap escC
theorem escL_snoc (l : List UInt8) (c : UInt8) : escL (l ++ [c]) = escL l ++ escC c := by simp [escL]
theorem escL_len (l : List UInt8) : (escL l).length ≤ 2 * l.length := by
  induction l with
  | nil => simp [escL]
  | cons c l ih =>
    have h1 : escL (c :: l) = escC c ++ escL l := by simp [escL]
    have h2 : (escC c).length ≤ 2 := by unfold escC; split <;> simp
    rw [h1, List.length_append, List.length_cons]
    omega
def quoteS (s : ByteArray) : ByteArray := if tokenB s then s else if allB valueB s then ⟨(34 :: escL s.data.toList ++ [34]).toArray⟩ else ⟨#[]⟩
def quoteOk (s : ByteArray) : Bool := tokenB s || allB valueB s
end Go.Proofs.Ytjocmjmfkgogiaa
