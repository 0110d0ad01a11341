/- Octets that go round in a row, as plain functions (layer 3). -/
import Derived.Test.YtpgnekejemockaaGb
namespace Go.Proofs.Ytpgnekejemockaa
open Go.RowKit
set_option linter.unusedVariables false
set_option linter.unusedSimpArgs false

/-- The n octets of the row R that stand from a on, round its end. -/
def win (R : List UInt8) (a n : Nat) : List UInt8 := (List.range n).map fun j => R.getD ((a + j) % R.length) 0
theorem win_len (R : List UInt8) (a n : Nat) : (win R a n).length = n := by simp [win]
theorem win_at (R : List UInt8) (a n j : Nat) (h : j < n) : (win R a n)[j]'(by rw [win_len]; exact h) = R.getD ((a + j) % R.length) 0 := by simp [win]
theorem mod2 {x M : Nat} (h : x < 2 * M) : x % M = if x < M then x else x - M := by
  split
  · rename_i h1; exact Nat.mod_eq_of_lt h1
  · rename_i h1
    rw [Nat.mod_eq_sub_mod (by omega), Nat.mod_eq_of_lt (by omega)]
/-- cs in the place of what stood from o on. -/
def spl (L : List UInt8) (o : Nat) (cs : List UInt8) : List UInt8 := L.take o ++ cs ++ L.drop (o + cs.length)
theorem spl_len {L : List UInt8} {o : Nat} {cs : List UInt8} (h : o + cs.length ≤ L.length) : (spl L o cs).length = L.length := by
  simp [spl]; omega
theorem spl_get {L : List UInt8} {o : Nat} {cs : List UInt8} (h : o + cs.length ≤ L.length) (i : Nat) : (spl L o cs).getD i 0 = if o ≤ i ∧ i < o + cs.length then cs.getD (i - o) 0 else L.getD i 0 := by
  unfold spl
  have hl : (L.take o).length = o := by rw [List.length_take]; omega
  simp only [List.getD_eq_getElem?_getD]
  by_cases h1 : i < o
  · rw [if_neg (by omega), List.append_assoc, List.getElem?_append_left (by omega), List.getElem?_take_of_lt h1]
  · by_cases h2 : i < o + cs.length
    · rw [if_pos ⟨by omega, h2⟩, List.append_assoc, List.getElem?_append_right (by omega), List.getElem?_append_left (by omega), hl]
    · rw [if_neg (by omega), List.getElem?_append_right (by rw [List.length_append, hl]; omega), List.length_append, hl, List.getElem?_drop]
      congr 2
      omega
theorem getD_take {c : List UInt8} {m i : Nat} (h : i < m) : (c.take m).getD i 0 = c.getD i 0 := by
  simp only [List.getD_eq_getElem?_getD]; rw [List.getElem?_take_of_lt h]
theorem getD_drop {c : List UInt8} {m i : Nat} : (c.drop m).getD i 0 = c.getD (m + i) 0 := by
  simp only [List.getD_eq_getElem?_getD]; rw [List.getElem?_drop]
theorem getD_at {c : List UInt8} {i : Nat} (h : i < c.length) : c.getD i 0 = c[i] := by simp [List.getD_eq_getElem?_getD, h]
/-- What putting writes. -/
def putR (R : List UInt8) (f : Nat) (c : List UInt8) : List UInt8 := spl (spl R f (c.take (min c.length (R.length - f)))) 0 (c.drop (min c.length (R.length - f)))
theorem put_fit {R : List UInt8} {f : Nat} {c : List UInt8} (hf : f < R.length) (hc : c.length ≤ R.length) : f + (c.take (min c.length (R.length - f))).length ≤ R.length ∧ 0 + (c.drop (min c.length (R.length - f))).length ≤ (spl R f (c.take (min c.length (R.length - f)))).length := by
  have h1 : f + (c.take (min c.length (R.length - f))).length ≤ R.length := by rw [List.length_take]; omega
  refine ⟨h1, ?_⟩
  rw [spl_len h1, List.length_drop]; omega
theorem putR_len {R : List UInt8} {f : Nat} {c : List UInt8} (hf : f < R.length) (hc : c.length ≤ R.length) : (putR R f c).length = R.length := by
  have h := put_fit hf hc
  unfold putR
  rw [spl_len h.2, spl_len h.1]
theorem win_put {R : List UInt8} {a n : Nat} {c : List UInt8} (ha : a < R.length) (hn : n + c.length ≤ R.length) (hc : 0 < c.length) :
    win (putR R ((a + n) % R.length) c) a (n + c.length) = win R a n ++ c := by
  have hM : 0 < R.length := by omega
  have hf : (a + n) % R.length < R.length := Nat.mod_lt _ hM
  have hfit := put_fit (c := c) hf (by omega)
  have hlen := putR_len (c := c) hf (by omega)
  have hfe := mod2 (x := a + n) (M := R.length) (by omega)
  apply List.ext_getElem
  · rw [win_len, List.length_append, win_len]
  · intro j h1 h2
    rw [win_len] at h1
    rw [win_at _ _ _ _ h1, hlen]
    have hpe := mod2 (x := a + j) (M := R.length) (by omega)
    have hl1 : (c.take (min c.length (R.length - (a + n) % R.length))).length = min c.length (R.length - (a + n) % R.length) := by rw [List.length_take]; omega
    have hl2 : (c.drop (min c.length (R.length - (a + n) % R.length))).length = c.length - min c.length (R.length - (a + n) % R.length) := by rw [List.length_drop]
    unfold putR
    rw [spl_get hfit.2, spl_get hfit.1, hl1, hl2]
    generalize (a + n) % R.length = f at *
    generalize (a + j) % R.length = p at *
    by_cases hj : j < n
    · rw [List.getElem_append_left (by rw [win_len]; exact hj), win_at _ _ _ _ hj, ← show p = (a + j) % R.length from by rw [hpe, mod2 (by omega)]]
      rw [if_neg (by split at hfe <;> split at hpe <;> omega), if_neg (by split at hfe <;> split at hpe <;> omega)]
    · rw [List.getElem_append_right (by rw [win_len]; omega)]
      simp only [win_len]
      rw [← getD_at]
      by_cases hm : j - n < min c.length (R.length - f)
      · rw [if_neg (by split at hfe <;> split at hpe <;> omega), if_pos (by split at hfe <;> split at hpe <;> omega), getD_take (by split at hfe <;> split at hpe <;> omega)]
        congr 1
        split at hfe <;> split at hpe <;> omega
      · rw [if_pos (by split at hfe <;> split at hpe <;> omega), getD_drop]
        congr 1
        split at hfe <;> split at hpe <;> omega
/-- The first of the octets, in their two parts. -/
theorem win_parts {R : List UInt8} {a n : Nat} (ha : a < R.length) (hn : n ≤ R.length) : (R.drop a).take (min n (R.length - a)) ++ R.take (n - min n (R.length - a)) = win R a n := by
  have hl1 : ((R.drop a).take (min n (R.length - a))).length = min n (R.length - a) := by rw [List.length_take, List.length_drop]; omega
  apply List.ext_getElem
  · rw [List.length_append, hl1, List.length_take, win_len]; omega
  · intro j h1 h2
    rw [win_len] at h2
    rw [win_at _ _ _ _ h2]
    have hpe := mod2 (x := a + j) (M := R.length) (by omega)
    by_cases hj : j < min n (R.length - a)
    · rw [List.getElem_append_left (by rw [hl1]; exact hj), List.getElem_take, List.getElem_drop, ← getD_at]
      congr 1
      rw [hpe]; split <;> omega
    · rw [List.getElem_append_right (by rw [hl1]; omega)]
      rw [List.getElem_take, ← getD_at]
      congr 1
      rw [hpe, hl1]; split <;> omega
theorem win_take {R : List UInt8} {a n m : Nat} (h : m ≤ n) : (win R a n).take m = win R a m := by
  unfold win
  rw [← List.map_take, List.take_range, Nat.min_eq_left h]
theorem win_drop {R : List UInt8} {a n m : Nat} (hM : 0 < R.length) (h : m ≤ n) : win R ((a + m) % R.length) (n - m) = (win R a n).drop m := by
  apply List.ext_getElem
  · rw [win_len, List.length_drop, win_len]
  · intro j h1 h2
    rw [win_len] at h1
    rw [win_at _ _ _ _ h1, List.getElem_drop, win_at _ _ _ _ (by omega)]
    congr 1
    rw [Nat.mod_add_mod]
    congr 1
    omega
end Go.Proofs.Ytpgnekejemockaa
