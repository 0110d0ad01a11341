/- Numbers of digits, as plain functions (layer 2). -/
import Derived.Test.YtahehpgnemanmaaPb
namespace Go.Proofs.Ytahehpgnemanmaa
open Go.RowKit
set_option linter.unusedVariables false
set_option linter.unusedSimpArgs false

/-- The value of a digit; 99: none. -/
def digV (n : Nat) : Nat := if 48 ≤ n ∧ n ≤ 57 then n - 48 else if 65 ≤ n ∧ n ≤ 70 then n - 55 else if 97 ≤ n ∧ n ≤ 102 then n - 87 else 99
def digI (n : Int) : Int := if 48 ≤ n ∧ n ≤ 57 then n - 48 else if 97 ≤ n ∧ n ≤ 102 then n - 87 else if 65 ≤ n ∧ n ≤ 70 then n - 55 else -1
theorem digI_range (n : Int) : -1 ≤ digI n ∧ digI n ≤ 15 := by unfold digI; repeat' split
                                                               all_goals omega
theorem digI_high (n : Nat) (h : 128 ≤ n) : digI (n : Int) = -1 := by
  unfold digI; rw [if_neg (by omega), if_neg (by omega), if_neg (by omega)]
theorem digI_digV (n b : Nat) (hb : b ≤ 16) : (digI (n : Int) < 0 ∨ (b : Int) ≤ digI (n : Int)) ↔ b ≤ digV n := by
  unfold digI digV
  by_cases h1 : 48 ≤ n ∧ n ≤ 57
  · rw [if_pos (by omega), if_pos h1]; omega
  · rw [if_neg (by omega), if_neg h1]
    by_cases h2 : 97 ≤ n ∧ n ≤ 102
    · rw [if_pos (by omega), if_neg (by omega), if_pos h2]; omega
    · rw [if_neg (by omega)]
      by_cases h3 : 65 ≤ n ∧ n ≤ 70
      · rw [if_pos (by omega), if_pos h3]; omega
      · rw [if_neg (by omega), if_neg h3, if_neg h2]; omega
theorem digI_eq (n b : Nat) (hb : b ≤ 16) (h : digV n < b) : digI (n : Int) = digV n := by
  unfold digI; unfold digV at *
  by_cases h1 : 48 ≤ n ∧ n ≤ 57
  · rw [if_pos (by omega), if_pos h1]; omega
  · rw [if_neg (by omega), if_neg h1] at *
    by_cases h2 : 97 ≤ n ∧ n ≤ 102
    · rw [if_pos (by omega), if_neg (by omega), if_pos h2]; omega
    · rw [if_neg (by omega)]
      by_cases h3 : 65 ≤ n ∧ n ≤ 70
      · rw [if_pos (by omega), if_pos h3]; omega
      · rw [if_neg h3, if_neg h2] at h; omega
theorem digV_high (n : Nat) (h : 128 ≤ n) : digV n = 99 := by
  unfold digV; rw [if_neg (by omega), if_neg (by omega), if_neg (by omega)]

/-- The number that octets come to, to a base. -/
def valN (b : Nat) (l : List UInt8) : Nat := l.foldl (fun a c => a * b + digV c.toNat) 0
theorem valN_snoc (b : Nat) (l : List UInt8) (c : UInt8) : valN b (l ++ [c]) = valN b l * b + digV c.toNat := by simp [valN, List.foldl_append]
theorem foldl_ge (b : Nat) (hb : 1 ≤ b) : ∀ (l : List UInt8) (a : Nat), a ≤ l.foldl (fun a c => a * b + digV c.toNat) a
  | [], a => Nat.le_refl _
  | c :: l, a => by
    rw [List.foldl_cons]
    refine Nat.le_trans ?_ (foldl_ge b hb l _)
    have : a * 1 ≤ a * b := Nat.mul_le_mul_left a hb
    omega
theorem valN_append_ge (b : Nat) (hb : 1 ≤ b) (l m : List UInt8) : valN b l ≤ valN b (l ++ m) := by
  rw [valN, valN, List.foldl_append]
  exact foldl_ge b hb m _
theorem foldl_pow (b : Nat) (hb : 1 ≤ b) : ∀ (l : List UInt8) (a : Nat), a * b ^ l.length ≤ l.foldl (fun a c => a * b + digV c.toNat) a
  | [], a => by simp
  | c :: l, a => by
    rw [List.foldl_cons, List.length_cons]
    refine Nat.le_trans ?_ (foldl_pow b hb l _)
    rw [Nat.pow_succ, Nat.mul_comm (b ^ l.length) b, ← Nat.mul_assoc]
    exact Nat.mul_le_mul_right _ (by omega)
theorem valN_zero (b : Nat) (m : List UInt8) : ∀ p : List UInt8, (∀ c ∈ p, c.toNat = 48) → valN b (p ++ m) = valN b m
  | [], _ => rfl
  | c :: p, h => by
    have hc : digV c.toNat = 0 := by rw [h c (by simp)]; rfl
    have := valN_zero b m p fun d hd => h d (by simp [hd])
    rw [← this]
    simp [valN, hc]
theorem valN_big (b : Nat) (hb : 10 ≤ b) (c : UInt8) (l : List UInt8) (hc : 1 ≤ digV c.toNat) (hl : 19 ≤ l.length) : 9223372036854775807 < valN b (c :: l) := by
  have h1 := foldl_pow b (by omega) l (0 * b + digV c.toNat)
  have h2 : 10 ^ 19 ≤ b ^ l.length := Nat.le_trans (Nat.pow_le_pow_left hb 19) (Nat.pow_le_pow_right (by omega) hl)
  have h3 : (0 * b + digV c.toNat) * b ^ l.length ≤ valN b (c :: l) := h1
  have h4 : 1 * b ^ l.length ≤ (0 * b + digV c.toNat) * b ^ l.length := Nat.mul_le_mul_right _ (by omega)
  omega

/-- P2.1. -/
def numOk (b : Nat) (l : List UInt8) : Bool := l.all fun c => decide (digV c.toNat < b)
def numE (b : Nat) (s : ByteArray) (most : Int) : Int :=
  if s.size = 0 then 2 else if numOk b s.data.toList = false then 3 else if (valN b s.data.toList : Int) ≤ most then 0 else 5
def numV (b : Nat) (s : ByteArray) (most : Int) : Int := if numE b s most = 0 then valN b s.data.toList else 0
theorem num_empty {b : Nat} {s : ByteArray} {most : Int} (h : s.size = 0) : numE b s most = 2 ∧ numV b s most = 0 := by
  have : numE b s most = 2 := by unfold numE; rw [if_pos h]
  exact ⟨this, by unfold numV; rw [this]; rfl⟩
theorem num_form {b : Nat} {s : ByteArray} {most : Int} (j : Nat) (hj : j < s.size) (h : b ≤ digV (bt s j)) : numE b s most = 3 ∧ numV b s most = 0 := by
  have hn : numOk b s.data.toList = false := by
    unfold numOk
    rw [List.all_eq_false]
    refine ⟨s.data.toList[j]'(by simpa using hj), List.getElem_mem _, ?_⟩
    rw [bt_list s j hj]; simp; omega
  have : numE b s most = 3 := by unfold numE; rw [if_neg (by omega), if_pos hn]
  exact ⟨this, by unfold numV; rw [this]; rfl⟩
theorem numOk_of {b : Nat} {s : ByteArray} (h : ∀ j, j < s.size → digV (bt s j) < b) : numOk b s.data.toList = true := by
  unfold numOk
  rw [List.all_eq_true]
  intro c hc
  obtain ⟨j, hj, rfl⟩ := List.getElem_of_mem hc
  have hj' : j < s.size := by simpa using hj
  rw [bt_list s j hj']; simp; exact h j hj'
theorem num_great {b : Nat} {s : ByteArray} {most : Int} (h0 : s.size ≠ 0) (hok : ∀ j, j < s.size → digV (bt s j) < b) (h : most < valN b s.data.toList) : numE b s most = 5 ∧ numV b s most = 0 := by
  have : numE b s most = 5 := by unfold numE; rw [if_neg h0, if_neg (by rw [numOk_of hok]; simp), if_neg (by omega)]
  exact ⟨this, by unfold numV; rw [this]; rfl⟩
theorem num_fits {b : Nat} {s : ByteArray} {most : Int} (h0 : s.size ≠ 0) (hok : ∀ j, j < s.size → digV (bt s j) < b) (h : (valN b s.data.toList : Int) ≤ most) : numE b s most = 0 ∧ numV b s most = valN b s.data.toList := by
  have : numE b s most = 0 := by unfold numE; rw [if_neg h0, if_neg (by rw [numOk_of hok]; simp), if_pos h]
  exact ⟨this, by unfold numV; rw [if_pos this]⟩
theorem ret_int {k : IntKind} {a b : Int} (h : a = b) : Ending.returned (.int k a) = .returned (.int k b) := by rw [h]
theorem ret_two {a b c d : Int} (h : c = a ∧ d = b) : Ending.returned (.tuple #[.int .i64 b, .int .i64 a]) = .returned (.tuple #[.int .i64 d, .int .i64 c]) := by rw [h.1, h.2]
theorem take_snoc (s : ByteArray) (k : Nat) (h : k < s.size) : s.data.toList.take (k + 1) = s.data.toList.take k ++ [s[k]] := by
  rw [List.take_succ_eq_append_getElem (by simpa using h)]; rfl
theorem valN_take (b : Nat) (s : ByteArray) (k : Nat) (h : k < s.size) : valN b (s.data.toList.take (k + 1)) = valN b (s.data.toList.take k) * b + digV (bt s k) := by
  rw [take_snoc s k h, valN_snoc, bt_at s k h]
theorem valN_take_le (b : Nat) (hb : 1 ≤ b) (s : ByteArray) (k : Nat) : valN b (s.data.toList.take k) ≤ valN b s.data.toList := by
  conv => rhs; rw [← List.take_append_drop k s.data.toList]
  exact valN_append_ge b hb _ _
end Go.Proofs.Ytahehpgnemanmaa
