/- Words with parameters: a parameter, as the document has it (layer 8). -/
import Derived.Test.YtgamekfickheaaaGreatPrc
import Derived.Deep.RegionWith
namespace Go.Proofs.YtgamekfickheaaaGreat
open Go.RowKit
set_option linter.unusedVariables false
set_option linter.unusedSimpArgs false

/-- A fact kept from the walk, that no unfolding shows. -/
structure Hd (p : Prop) : Prop where
  out : p
theorem ext_from (x : ByteArray) (k : Nat) : x.extract k x.size = fromB x k := rfl
theorem ext_up (x : ByteArray) (k : Nat) : x.extract 0 k = upB x k := rfl
def RParPost (x : ByteArray) (w : World) (e : Ending) (w' : World) : Prop :=
  ∃ (nm vl rest : ByteArray), e = .returned (.tuple #[.agg #[.string nm, .string vl], .string rest, .bool (parOk x)]) ∧ Below w.heap.size w w' ∧ (parOk x = true → nm = parName x ∧ vl = parVal x ∧ rest = fromB x (parEnd x))
structure RParF (x : ByteArray) : Prop where
  e1 : fromB (fromB x (preN blankN x)) 1 = fromB x (semiAt x + 1)
  e2 : fromB (fromB x (semiAt x + 1)) (preN blankN (fromB x (semiAt x + 1))) = fromB x (nameAt x)
  e3 : fromB (fromB x (nameAt x)) (preN tcharB (fromB x (nameAt x))) = fromB x (nameEnd x)
  e4 : fromB (fromB x (nameEnd x)) (preN blankN (fromB x (nameEnd x)) + 1) = fromB x (eqAt x + 1)
  e5 : fromB (fromB x (eqAt x + 1)) (preN blankN (fromB x (eqAt x + 1))) = fromB x (valAt x)
  e6 : ∀ k, fromB (fromB x (valAt x)) k = fromB x (valAt x + k)
theorem rparF (x : ByteArray) : RParF x := by
  have g : ∀ a b c, a + b = c → fromB (fromB x a) b = fromB x c := fun a b c h => by rw [fromB_from, h]
  exact ⟨g _ _ _ (by unfold semiAt; omega), g _ _ _ (by unfold nameAt; omega), g _ _ _ (by unfold nameEnd nameLen; omega), g _ _ _ (by unfold eqAt; omega), g _ _ _ (by unfold valAt; omega), fun k => g _ _ _ rfl⟩
theorem ext2 (x : ByteArray) (a b : Nat) (h : a ≤ x.size) : (x.extract a x.size).extract b (x.size - a) = fromB x (a + b) := by
  have e : x.size - a = (fromB x a).size := (fromB_size x a).symm
  rw [e, ← fromB_from]; rfl
theorem pre_le (P : Nat → Bool) (x : ByteArray) : preN P x ≤ x.size := preN_le P x
theorem first_ne {y : ByteArray} {c : Nat} (h : 0 < y.size) (hc : bt y 0 ≠ c) : ((y[0].toNat : Int) != (c : Int)) = true := by rw [bt_at, bne_iff_ne]; omega
theorem first_eq {y : ByteArray} {c : Nat} (h : 0 < y.size) (hc : bt y 0 = c) : ((y[0].toNat : Int) != (c : Int)) = false := by rw [bt_at, hc]; simp
theorem szi {n : Nat} (h : n = 0) : ((n : Int) == 0) = true := by rw [h]; rfl
theorem szn {n : Nat} (h : 0 < n) : ((n : Int) == 0) = false := by rw [beq_eq_false_iff_ne]; omega
theorem eqi {n m : Nat} (h : n = m) : ((n : Int) == (m : Int)) = true := by rw [h]; simp
theorem eqn {n m : Nat} (h : n ≠ m) : ((n : Int) == (m : Int)) = false := by rw [beq_eq_false_iff_ne]; omega
theorem semi_first {x : ByteArray} (h : hasSemi x = true) : 0 < (fromB x (preN blankN x)).size ∧ bt (fromB x (preN blankN x)) 0 = 59 := by
  simp only [hasSemi, Bool.and_eq_true, decide_eq_true_eq, beq_iff_eq] at h
  have h1 : preN blankN x < x.size := h.1
  exact ⟨by rw [fromB_size]; omega, by rw [fromB_bt _ _ _ (by omega), Nat.add_zero]; exact h.2⟩
theorem semi_none {x : ByteArray} (h : hasSemi x = false) (h0 : 0 < (fromB x (preN blankN x)).size) : bt (fromB x (preN blankN x)) 0 ≠ 59 := by
  intro hc
  rw [fromB_size] at h0
  rw [fromB_bt _ _ _ (by omega), Nat.add_zero] at hc
  have : hasSemi x = true := by
    simp only [hasSemi, Bool.and_eq_true, decide_eq_true_eq, beq_iff_eq]
    exact ⟨by unfold semiAt; omega, hc⟩
  rw [h] at this; cases this

end Go.Proofs.YtgamekfickheaaaGreat
