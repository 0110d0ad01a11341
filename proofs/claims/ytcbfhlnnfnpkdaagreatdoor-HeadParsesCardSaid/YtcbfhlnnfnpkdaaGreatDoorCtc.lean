/- strings.Cut at the octet 58. -/
import Derived.Test.YtcbfhlnnfnpkdaaGreatDoorProg
import Derived.Test.YtcbfhlnnfnpkdaaGreatDoorUps
import Derived.Lib.Bytealg
import Derived.RegionTactic
import Derived.ChangeAlike
import Derived.Deep.QuietTactic
import Derived.BigQuiet
namespace Go.Proofs.YtcbfhlnnfnpkdaaGreatDoor
open Go.RowKit
set_option linter.unusedVariables false
set_option linter.unusedSimpArgs false

set_option maxRecDepth 100000 in
set_option maxHeartbeats 1000000 in
theorem cutC_lite (s : ByteArray) (c : Int) (w : World) :
    Calls Tryz.prog 123 #[.string s, .int .u8 c] w fun e w' => e = .returned (.int .i64 (Lib.indexByte s.data.toList c.toNat.toUInt8)) ∧ w = w' := by
  go_enter Tryz.func123, Tryz.ntmps123
  go_wp2
  rw [run_callFunc_extern Tryz.func132 (by kernel_rfl) (by kernel_rfl) (by kernel_rfl) (e := Extern.BytealgIndexByte.indexByte) (by kernel_rfl), Lib.run_indexByteString]
  simp only [Result.andThen]
  rw [Oper.upon_value]
  go_wp2
  go_ret
  exact ⟨rfl, rfl⟩
set_option maxRecDepth 100000 in
set_option maxHeartbeats 1000000 in
theorem cutC_index (s : ByteArray) (w : World) (hs : s.size ≤ 100000000) :
    Calls Tryz.prog 119 #[.string s, .string ⟨#[58]⟩] w fun e w' => e = .returned (.int .i64 (ixB 58 s)) ∧ w = w' := by
  by_cases hq : s = ⟨#[58]⟩
  · subst hq
    have h9 : ixB 58 ⟨#[58]⟩ = 0 := by decide
    have HX := Kp.mk h9
    clear h9
    go_enter Tryz.func119, Tryz.ntmps119
    go_wp2_with fail
    try (refine (cutC_lite _ _ _).mono ?_; rintro e w1 ⟨rfl, rfl⟩; go_wp2_with fail)
    go_ret
    exact ⟨by rw [HX.out]; first | rfl | decide, rfl⟩
  · have h1 : ¬ (([58] : List UInt8) = s.toList) := fun e => hq (ba_ext_l (by rw [ByteArray.toList_eq (bs := ⟨#[58]⟩)]; exact e)).symm
    have h2 : (([58] : List UInt8) == s.toList) = false := by rw [beq_eq_false_iff_ne]; exact h1
    clear hq
    go_enter Tryz.func119, Tryz.ntmps119
    go_wp2_with fail
    refine (cutC_lite _ _ _).mono ?_
    rintro e w1 ⟨rfl, rfl⟩
    go_wp2_with fail
    go_ret
    exact ⟨rfl, rfl⟩
set_option maxRecDepth 100000 in
set_option maxHeartbeats 1000000 in
theorem cutC_lno (s : ByteArray) (w : World) (hs : s.size ≤ 100000000) (h : upTo 58 s.data.toList = s.size) :
    Calls Tryz.prog 101 #[.string s, .string ⟨#[58]⟩] w fun e w' => e = .returned (.tuple #[.string s, .string ⟨#[]⟩, .bool false]) ∧ ∃ n, w' = w.drewN n := by
  have HI := Kp.mk (ixB_no (c := 58) h)
  clear h
  go_enter Tryz.func101, Tryz.ntmps101
  go_wp2_with fail
  refine (cutC_index _ _ hs).mono ?_
  rintro e w1 ⟨rfl, rfl⟩
  rw [HI.out]
  go_wp2_with fail
  go_ret3
  exact ⟨rfl, 0, rfl⟩
set_option maxRecDepth 100000 in
set_option maxHeartbeats 1000000 in
theorem cutC_lyes (s : ByteArray) (k : Nat) (w : World) (hs : s.size ≤ 100000000) (h : upTo 58 s.data.toList = k) (hk : k < s.size) :
    Calls Tryz.prog 101 #[.string s, .string ⟨#[58]⟩] w fun e w' => e = .returned (.tuple #[.string (s.extract 0 k), .string (s.extract (k + 1) s.size), .bool true]) ∧ ∃ n, w' = w.drewN n := by
  have HI := Kp.mk (ixB_yes (c := 58) h hk)
  have c1 : (0 : Int) ≤ (k : Int) := by omega
  have c2 : (k : Int) ≤ (s.size : Int) := by omega
  have c3 : (k : Int) + 1 ≤ (s.size : Int) := by omega
  have c4 : (0 : Int) ≤ (k : Int) + 1 := by omega
  have c5 : IntKind.i64.wrap ((k : Int) + 1) = (k : Int) + 1 := wrap_idU (by omega) (by omega)
  have c6 : ((k : Int) + 1).toNat = k + 1 := by omega
  clear h
  go_enter Tryz.func101, Tryz.ntmps101
  go_wp2_with fail
  refine (cutC_index _ _ hs).mono ?_
  rintro e w1 ⟨rfl, rfl⟩
  rw [HI.out]
  go_wp2_with fail
  go_quiet (fail)
  go_wp2_with fail
  go_ret3
  exact ⟨rfl, _, rfl⟩
theorem cutC_no (s : ByteArray) (w : World) (hs : s.size ≤ 100000000) (h : upTo 58 s.data.toList = s.size) :
    Calls Tryz.prog 61 #[.string s, .string ⟨#[58]⟩] w fun e w' => e = .returned (.tuple #[.string s, .string ⟨#[]⟩, .bool false]) ∧ ∃ n, w' = w.drewN n := by
  go_enter Tryz.func61, Tryz.ntmps61
  go_wp2_with fail
  refine (cutC_lno s _ hs h).mono ?_
  rintro e w1 ⟨rfl, n1, rfl⟩
  go_wp2_with fail
  go_ret3
  exact ⟨rfl, n1, rfl⟩
theorem cutC_yes (s : ByteArray) (k : Nat) (w : World) (hs : s.size ≤ 100000000) (h : upTo 58 s.data.toList = k) (hk : k < s.size) :
    Calls Tryz.prog 61 #[.string s, .string ⟨#[58]⟩] w fun e w' => e = .returned (.tuple #[.string (s.extract 0 k), .string (s.extract (k + 1) s.size), .bool true]) ∧ ∃ n, w' = w.drewN n := by
  have H := Kp.mk h
  clear h
  go_enter Tryz.func61, Tryz.ntmps61
  go_wp2_with fail
  refine (cutC_lyes s k _ hs H.out hk).mono ?_
  rintro e w1 ⟨rfl, n1, rfl⟩
  go_wp2_with fail
  go_ret3
  exact ⟨rfl, n1, rfl⟩
end Go.Proofs.YtcbfhlnnfnpkdaaGreatDoor
