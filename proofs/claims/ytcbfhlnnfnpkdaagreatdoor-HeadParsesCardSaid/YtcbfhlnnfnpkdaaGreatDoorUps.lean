/- Up to where an octet first stands. -/
import Derived.Test.YtcbfhlnnfnpkdaaGreatDoorGb
import Derived.Lib.Bytealg
namespace Go.Proofs.YtcbfhlnnfnpkdaaGreatDoor
open Go.RowKit
set_option linter.unusedVariables false
set_option linter.unusedSimpArgs false

def upTo (c : UInt8) : List UInt8 → Nat
  | [] => 0
  | b :: l => if b == c then 0 else upTo c l + 1
theorem upTo_le (c : UInt8) : ∀ l, upTo c l ≤ l.length
  | [] => by simp [upTo]
  | b :: l => by
    have := upTo_le c l
    unfold upTo
    split <;> simp <;> omega
theorem ib_upTo (c : UInt8) : ∀ l, (upTo c l = l.length → Lib.indexByte l c = -1) ∧ (upTo c l < l.length → Lib.indexByte l c = (upTo c l : Nat))
  | [] => ⟨fun _ => rfl, fun h => by simp [upTo] at h⟩
  | b :: l => by
    obtain ⟨h1, h2⟩ := ib_upTo c l
    have hle := upTo_le c l
    unfold upTo Lib.indexByte
    cases hb : (b == c)
    · simp only [Bool.false_eq_true, if_false, List.length_cons]
      refine ⟨fun h => ?_, fun h => ?_⟩
      · rw [h1 (by omega)]; rfl
      · rw [h2 (by omega)]
        have : ((upTo c l : Int) == -1) = false := by rw [beq_eq_false_iff_ne]; omega
        rw [this]
        simp
    · simp
theorem upTo_list (c : UInt8) : ∀ (l : List UInt8) (k : Nat), k ≤ l.length → (∀ (j : Nat) (h : j < l.length), j < k → l[j] ≠ c) → (k = l.length ∨ ∃ h : k < l.length, l[k] = c) → upTo c l = k
  | [], k, h1, _, _ => by simp at h1; simp [upTo, h1]
  | b :: l, 0, _, _, h3 => by
    rcases h3 with h3 | ⟨_, h3⟩
    · simp at h3
    · simp at h3
      unfold upTo
      simp [h3]
  | b :: l, k + 1, h1, h2, h3 => by
    have hb : b ≠ c := h2 0 (by simp) (by omega)
    unfold upTo
    rw [if_neg (by simpa using hb), upTo_list c l k (by simpa using h1) (fun j hj hjk => h2 (j + 1) (by simp; omega) (by omega)) (by
      rcases h3 with h3 | ⟨h, h3⟩
      · left; simpa using h3
      · right; exact ⟨by simpa using h, h3⟩)]
theorem upTo_of {c : UInt8} {s : ByteArray} {k : Nat} (hk : k ≤ s.size) (hb : ∀ j, j < k → bt s j ≠ c.toNat) (he : k = s.size ∨ bt s k = c.toNat) : upTo c s.data.toList = k := by
  refine upTo_list c _ k (by rw [← ba_size']; exact hk) (fun j hj hjk e => ?_) ?_
  · have := hb j hjk
    rw [← bt_list s j (by rw [ba_size']; exact hj), e] at this
    exact this rfl
  · by_cases h : k = s.size
    · left; rw [← ba_size']; exact h
    · right
      have hk2 : k < s.size := by omega
      refine ⟨by rw [← ba_size']; exact hk2, ?_⟩
      have h2 := he.resolve_left h
      rw [← bt_list s k hk2] at h2
      exact UInt8.toNat_inj.1 h2
/-- What Index tells. -/
def ixB (c : UInt8) (s : ByteArray) : Int := Lib.indexByte s.data.toList c
theorem ixB_no {c : UInt8} {s : ByteArray} (h : upTo c s.data.toList = s.size) : ixB c s = -1 := (ib_upTo c _).1 (by rw [h, ba_size'])
theorem ixB_yes {c : UInt8} {s : ByteArray} {k : Nat} (h : upTo c s.data.toList = k) (hk : k < s.size) : ixB c s = (k : Int) := by
  have := (ib_upTo c s.data.toList).2 (by rw [h, ← ba_size']; exact hk)
  rw [h] at this
  exact this
theorem ba_ext_l {a b : ByteArray} (h : a.toList = b.toList) : a = b := by
  rw [ByteArray.toList_eq, ByteArray.toList_eq] at h
  cases a with | mk d => cases b with | mk d2 => simp at h; rw [h]
theorem wrap_idU {x : Int} (h1 : -9223372036854775808 ≤ x) (h2 : x < 9223372036854775808) : IntKind.i64.wrap x = x := by
  simp [IntKind.wrap, IntKind.signed, IntKind.bits, wrap64]
  split <;> omega
end Go.Proofs.YtcbfhlnnfnpkdaaGreatDoor
