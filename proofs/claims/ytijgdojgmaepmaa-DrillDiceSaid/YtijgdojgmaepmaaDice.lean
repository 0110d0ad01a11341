/- Dice (layer 52): the functions. -/
import Derived.Test.YtijgdojgmaepmaaProg
import Derived.WalkKit
import Derived.WalkSpells
import Derived.WalkLawsBesides
import Derived.Lib.Hide
import Derived.Deep.Light
namespace Go.Proofs.Ytijgdojgmaepmaa
open Go.RowKit
set_option linter.unusedVariables false
set_option linter.unusedSimpArgs false

theorem u64w (n : Int) : 0 ≤ IntKind.u64.wrap n ∧ IntKind.u64.wrap n < 18446744073709551616 := by
  simp [IntKind.wrap, IntKind.signed, IntKind.bits]; omega
theorem u64i {n : Int} (h0 : 0 ≤ n) (h1 : n < 18446744073709551616) : IntKind.u64.wrap n = n := by
  simp [IntKind.wrap, IntKind.signed, IntKind.bits]; omega

/-- The state behind; the number; as the program reckons them. -/
def dSt (s : Int) : Int := IntKind.u64.wrap (s + 11400714819323198485)
def dMix (k m z : Int) : Int := IntKind.u64.wrap (bits BinOp.xor IntKind.u64 z (z / k) * m)
def dLast (k z : Int) : Int := bits BinOp.xor IntKind.u64 z (z / k)
def dNum (s : Int) : Int := dLast 2147483648 (dMix 134217728 10723151780598845931 (dMix 1073741824 13787848793156543929 s))
theorem tdivw {z k : Int} (h0 : 0 ≤ z) (h1 : z < 18446744073709551616) (hk : 1 ≤ k) : IntKind.u64.wrap (z.tdiv k) = z / k := by
  rw [Int.tdiv_eq_ediv_of_nonneg h0]
  refine u64i (Int.ediv_nonneg h0 (by omega)) ?_
  have := Int.ediv_le_self k h0
  omega
theorem dMix_ref {z k m : Int} (h0 : 0 ≤ z) (h1 : z < 18446744073709551616) (hk : 1 ≤ k) : IntKind.u64.wrap (bits BinOp.xor IntKind.u64 z (IntKind.u64.wrap (z.tdiv k)) * m) = dMix k m z := by
  rw [tdivw h0 h1 hk]; rfl
theorem dMix_range (k m z : Int) : 0 ≤ dMix k m z ∧ dMix k m z < 18446744073709551616 := u64w _
theorem dSt_range (s : Int) : 0 ≤ dSt s ∧ dSt s < 18446744073709551616 := u64w _
def refNum (s : Int) : Int :=
  let z1 := IntKind.u64.wrap (bits BinOp.xor IntKind.u64 s (IntKind.u64.wrap (s.tdiv 1073741824)) * 13787848793156543929)
  let z2 := IntKind.u64.wrap (bits BinOp.xor IntKind.u64 z1 (IntKind.u64.wrap (z1.tdiv 134217728)) * 10723151780598845931)
  bits BinOp.xor IntKind.u64 z2 (IntKind.u64.wrap (z2.tdiv 2147483648))
theorem refNum_eq {s : Int} (h0 : 0 ≤ s) (h1 : s < 18446744073709551616) : refNum s = dNum s := by
  have e1 := dMix_ref (m := 13787848793156543929) h0 h1 (k := 1073741824) (by omega)
  have r1 := dMix_range 1073741824 13787848793156543929 s
  have e2 := dMix_ref (m := 10723151780598845931) r1.1 r1.2 (k := 134217728) (by omega)
  have r2 := dMix_range 134217728 10723151780598845931 (dMix 1073741824 13787848793156543929 s)
  have e3 := tdivw r2.1 r2.2 (k := 2147483648) (by omega)
  simp only [refNum, e1, e2, e3]
  rfl
theorem ret_u2 {a b c d : Int} (h : a = c ∧ b = d) : Ending.returned (.tuple #[.int .u64 a, .int .u64 b]) = .returned (.tuple #[.int .u64 c, .int .u64 d]) := by rw [h.1, h.2]

set_option maxHeartbeats 400000 in
theorem ref_next_any (s : Int) (w : World) (h0 : 0 ≤ s) (h1 : s < 18446744073709551616) :
    Calls Try.prog 24 #[.int .u64 s] w fun e w' => e = .returned (.tuple #[.int .u64 (dSt s), .int .u64 (dNum (dSt s))]) ∧ w = w' := by
  have hr := dSt_range s
  rw [← refNum_eq hr.1 hr.2]
  clear hr
  go_enter Try.func24, Try.ntmps24
  go_wp2
  go_ret2
  exact ⟨rfl, rfl⟩

set_option maxHeartbeats 400000 in
theorem dice_next_any (B : Nat) (s : Int) (w : World) (h0 : 0 ≤ s) (h1 : s < 18446744073709551616) (hc : w.cell? ⟨B, 0, none⟩ = some (.int .u64 s)) (hf : w.frozen? ⟨B, 0, none⟩ = false) :
    Calls Try.prog 25 #[.pointer (some ⟨B, 0, none⟩)] w fun e w' => e = .returned (.int .u64 (dNum (dSt s))) ∧ w' = w.setCell ⟨B, 0, none⟩ (.int .u64 (dSt s)) := by
  go_enter Try.func25, Try.ntmps25
  go_wp2
  go_ret
  exact ⟨rfl, rfl⟩

set_option maxHeartbeats 400000 in
theorem dice_next_nil (w : World) :
    Calls Try.prog 25 #[.pointer none] w fun e w' => e = .returned (.int .u64 0) ∧ w = w' := by
  go_enter Try.func25, Try.ntmps25
  go_wp2
  go_ret
  exact ⟨rfl, rfl⟩

def dBelow (s n : Int) : Int := wrap64 ((dNum (dSt s)).tmod n)
set_option maxHeartbeats 400000 in
theorem dice_below_any (B : Nat) (s n : Int) (w : World) (h0 : 0 ≤ s) (h1 : s < 18446744073709551616) (hn : 1 ≤ n) (hn1 : n ≤ 9223372036854775807) (hc : w.cell? ⟨B, 0, none⟩ = some (.int .u64 s)) (hf : w.frozen? ⟨B, 0, none⟩ = false) :
    Calls Try.prog 23 #[.pointer (some ⟨B, 0, none⟩), .int .i64 n] w fun e w' => e = .returned (.int .i64 (dBelow s n)) ∧ w' = w.setCell ⟨B, 0, none⟩ (.int .u64 (dSt s)) := by
  go_enter Try.func23, Try.ntmps23
  go_wp2_with fail
  refine (dice_next_any B s _ h0 h1 hc hf).mono ?_
  rintro e w' ⟨rfl, rfl⟩
  go_wp2_with fail
  go_ret
  exact ⟨rfl, rfl⟩
set_option maxHeartbeats 400000 in
theorem dice_below_no (B : Nat) (n : Int) (w : World) (hn : n < 1) :
    Calls Try.prog 23 #[.pointer (some ⟨B, 0, none⟩), .int .i64 n] w fun e w' => e = .returned (.int .i64 0) ∧ w = w' := by
  go_enter Try.func23, Try.ntmps23
  go_wp2_with fail
  go_ret
  exact ⟨rfl, rfl⟩
set_option maxHeartbeats 400000 in
theorem dice_below_nil (n : Int) (w : World) :
    Calls Try.prog 23 #[.pointer none, .int .i64 n] w fun e w' => e = .returned (.int .i64 0) ∧ w = w' := by
  go_enter Try.func23, Try.ntmps23
  go_wp2_with fail
  go_ret
  exact ⟨rfl, rfl⟩
set_option maxHeartbeats 400000 in
theorem dice_new_any (n : Int) (w : World) :
    Calls Try.prog 22 #[.int .i64 n] w fun e w' => e = .returned (.pointer (some ⟨w.heap.size, 0, none⟩)) ∧ w' = w.alloc (.cells #[.int .u64 (IntKind.u64.wrap n)] 65) := by
  go_enter Try.func22, Try.ntmps22
  go_wp2
  go_ret
  exact ⟨rfl, rfl⟩
theorem dice_first : dNum (dSt 0) = 16294208416658607535 := by decide +kernel
set_option maxHeartbeats 400000 in
theorem lives52_any (w : World) :
    Calls Try.prog 26 #[] w fun e w' => e = .returned (.bool true) ∧ Below w.heap.size w w' := by
  go_enter Try.func26, Try.ntmps26
  go_wp2_with fail
  refine (dice_new_any _ _).mono ?_
  rintro e w' ⟨rfl, rfl⟩
  rw [show IntKind.u64.wrap 0 = 0 from rfl]
  go_wp2_with fail
  refine (dice_next_any _ 0 _ (by omega) (by omega) ?_ ?_).mono ?_
  · rw [World.cell?_alloc_at _ _ _ _ rfl]; rfl
  · exact World.frozen?_alloc_at _ _ _ _ rfl
  · rintro e w' ⟨rfl, rfl⟩
    rw [dice_first]
    go_wp2_with fail
    go_ret
    exact ⟨rfl, (Below.refl _ _).alloc (Nat.le_refl _) _⟩
end Go.Proofs.Ytijgdojgmaepmaa
