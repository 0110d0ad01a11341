/- Hosts (layer 11): the document's own functions. · Hosts (layer 11): the document's Parse, Text, Key; the examples; the laws HostParses, HostText, HostBack. -/
import Derived.Test.YtkfpioadimkogaaDoorHoe
import Derived.Deep.DeepCutAuto
import Derived.Test.YtkfpioadimkogaaDoorRta
import Derived.Test.YtkfpioadimkogaaDoorGb
namespace Go.Proofs.YtkfpioadimkogaaDoor
open Go.RowKit
set_option linter.unusedVariables false
set_option linter.unusedSimpArgs false

theorem eq_false_of {a b : Int} (h : a ≠ b) : (a == b) = false := beq_eq_false_iff_ne.2 h
def HsNmPost (s : ByteArray) (w : World) (e : Ending) (w' : World) : Prop := ∃ k : Nat, e = .returned (.int .i64 (k : Int)) ∧ HsNm s k ∧ w = w'
theorem hsNmPost_mk {s : ByteArray} {w : World} {k : Nat} {z : Int} (h : HsNm s k) (hz : z = k) : HsNmPost s w (.returned (.int .i64 z)) w := ⟨k, by rw [hz], h, rfl⟩
theorem hsNm_cases (n : Nat) : (48 ≤ n ∧ n ≤ 57) ∨ (65 ≤ n ∧ n ≤ 90) ∨ (97 ≤ n ∧ n ≤ 122) ∨ otherB n = true := by simp [otherB]; omega
/-- What the run over the signs comes to. -/
theorem hsNm_plain {n : Nat} (h : (48 ≤ n ∧ n ≤ 57) ∨ (65 ≤ n ∧ n ≤ 90) ∨ (97 ≤ n ∧ n ≤ 122)) : hsNm n = true := by
  unfold hsNm
  generalize hsSigns.any (fun m => m == n) = b
  simp
  omega
theorem hsNm_other {n : Nat} (h : otherB n = true) : hsNm n = hsSigns.any (fun m => m == n) := by
  simp [otherB] at h
  unfold hsNm
  generalize hsSigns.any (fun m => m == n) = b
  rw [Bool.eq_iff_iff]
  simp
  omega
def sgT (n k : Nat) : Bool := (hsSigns.take k).any (fun m => m == n)
theorem sgT_zero (n : Nat) : sgT n 0 = false := rfl
theorem sgT_all (n : Nat) : sgT n 15 = hsSigns.any (fun m => m == n) := rfl
theorem hsSB_at : ∀ k, k < 15 → hsSigns[k]? = some (bt hsSB k) := by decide +kernel
theorem sgT_step (n k : Nat) (h : k < 15) : sgT n (k + 1) = (sgT n k || (bt hsSB k == n)) := by
  unfold sgT
  have := hsSB_at k h
  rw [List.take_add_one, this, List.any_append]
  simp
def hsPl (n : Nat) : Bool := (decide (48 ≤ n) && decide (n ≤ 57)) || (decide (65 ≤ n) && decide (n ≤ 90)) || (decide (97 ≤ n) && decide (n ≤ 122))
theorem hsNm_pl (n : Nat) : hsNm n = (hsPl n || hsSigns.any (fun m => m == n)) := rfl
theorem hsPl_cases (n : Nat) : (hsPl n = true ∧ 48 ≤ n ∧ n ≤ 57) ∨ (hsPl n = true ∧ 65 ≤ n ∧ n ≤ 90) ∨ (hsPl n = true ∧ 97 ≤ n ∧ n ≤ 122) ∨ (hsPl n = false ∧ n < 48) ∨ (hsPl n = false ∧ 58 ≤ n ∧ n < 65) ∨ (hsPl n = false ∧ 91 ≤ n ∧ n < 97) ∨ (hsPl n = false ∧ 123 ≤ n) := by
  unfold hsPl
  simp
  omega
end Go.Proofs.YtkfpioadimkogaaDoor
namespace Go.Proofs.YtkfpioadimkogaaDoor
open Go.RowKit
set_option linter.unusedVariables false
set_option linter.unusedSimpArgs false

/-! ### The examples -/
def exH1 : ByteArray := ⟨#[69, 120, 97, 109, 112, 108, 101, 46, 67, 79, 77, 58, 56, 48]⟩
def exH2 : ByteArray := ⟨#[91, 58, 58, 49, 93, 58, 56, 48, 56, 48]⟩
theorem exH1_key : hsKR exH1 = .tuple #[.string ⟨#[101, 120, 97, 109, 112, 108, 101, 46, 99, 111, 109]⟩, .bool true] := by
  have h1 : hsK exH1 = ⟨#[101, 120, 97, 109, 112, 108, 101, 46, 99, 111, 109]⟩ := by decide +kernel
  have h2 : (hsE exH1 == 0) = true := by decide +kernel
  unfold hsKR
  rw [h1, h2]
theorem exH2_parse : hsRet exH2 = .tuple #[.string ⟨#[91, 58, 58, 49, 93]⟩, .int .i64 8080, .int .i64 0] := by
  have h1 : hsN exH2 = ⟨#[91, 58, 58, 49, 93]⟩ := by decide +kernel
  have h2 : hsE exH2 = 0 := by decide +kernel
  have h3 : hsP exH2 = 8080 := by decide +kernel
  unfold hsRet
  rw [h1, h2, h3]
theorem exH3_text : hsTxt ⟨#[65]⟩ 81 = ⟨#[97, 58, 56, 49]⟩ := by decide +kernel
end Go.Proofs.YtkfpioadimkogaaDoor
