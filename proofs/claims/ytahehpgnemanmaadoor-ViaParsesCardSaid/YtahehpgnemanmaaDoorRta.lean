/- Numbers as the document writes them, to the base ten: Digits, Text, Pad (layer 2). -/
import Derived.Test.YtahehpgnemanmaaDoorTxt
import Derived.Test.YtahehpgnemanmaaDoorGb
namespace Go.Proofs.YtahehpgnemanmaaDoor
open Go.RowKit
set_option linter.unusedVariables false
set_option linter.unusedSimpArgs false

def signsT : ByteArray := ⟨#[48, 49, 50, 51, 52, 53, 54, 55, 56, 57, 97, 98, 99, 100, 101, 102]⟩
theorem signsT_eq : (⟨#[48, 49, 50, 51, 52, 53, 54, 55, 56, 57, 97, 98, 99, 100, 101, 102]⟩ : ByteArray) = signsT := rfl
theorem signsT_size : signsT.size = 16 := rfl
theorem signsT_one : ∀ d, d < 16 → (signsT.extract d (d + 1)).data.toList = [sgn d] := by decide +kernel
theorem rem10 (m : Nat) (w : World) (hm : m < 9223372036854775809) : (binOp .rem 99 (.int .u64 (m : Int)) (.int .u64 10)).run Tryd.prog w = .ok (.int .u64 ((m % 10 : Nat) : Int)) w := by
  have d1 : ((m : Int).tmod 10) = ((m % 10 : Nat) : Int) := by rw [Int.tmod_eq_emod_of_nonneg (by omega)]; omega
  go_simp

/-- More digits: noughts ahead. -/
theorem wdigAux_wide (W : Nat) (hW : W ≤ 20) : ∀ (f n : Nat) (acc : List UInt8), f + acc.length = 20 → wdigAux 10 W f n acc = List.replicate (W - (wdigAux 10 0 f n acc).length) 48 ++ wdigAux 10 0 f n acc
  | 0, n, acc, h => by
    have h1 : acc.length = 20 := by omega
    have h2 : W - acc.length = 0 := by omega
    show acc = List.replicate (W - acc.length) 48 ++ acc
    rw [h2]; rfl
  | f + 1, n, acc, h => by
    by_cases hn : 0 < n
    · rw [wdigAux_step (.inl hn), wdigAux_step (.inl hn)]
      exact wdigAux_wide W hW f _ _ (by simp; omega)
    · have h0 : n = 0 := by omega
      subst h0
      rw [wdigAux_stop (wide := 0) (by omega)]
      by_cases hw : acc.length < W
      · rw [wdigAux_step (.inr hw)]
        have ih := wdigAux_wide W hW f (0 / 10) (sgn (0 % 10) :: acc) (by simp; omega)
        rw [wdigAux_stop (wide := 0) (by simp)] at ih
        rw [ih]
        have hs : sgn (0 % 10) = 48 := rfl
        rw [hs, List.length_cons, show W - acc.length = (W - (acc.length + 1)) + 1 from by omega, List.replicate_succ', List.append_assoc]
        rfl
      · rw [wdigAux_stop (by omega), show W - acc.length = 0 from by omega]
        rfl
theorem wdig_wide (W n : Nat) (h1 : 1 ≤ W) (hW : W ≤ 20) : wdig 10 W n = List.replicate (W - (wdig 10 1 n).length) 48 ++ wdig 10 1 n := by
  have a := wdigAux_wide W hW 20 n [] rfl
  have b := wdigAux_wide 1 (by omega) 20 n [] rfl
  unfold wdig
  rw [a, b]
  generalize wdigAux 10 0 20 n [] = D
  rw [List.length_append, List.length_replicate, ← List.append_assoc, List.replicate_append_replicate]
  rw [show W - (1 - D.length + D.length) + (1 - D.length) = W - D.length from by omega]
end Go.Proofs.YtahehpgnemanmaaDoor
