/- Dates of fields (layer 6): what takes the signs of a pattern, the program's. -/
import Derived.Test.YtlpcjnjhpgddmaaDta
import Derived.Test.YtlpcjnjhpgddmaaBld
import Derived.Test.YtlpcjnjhpgddmaaShb
import Derived.Deep.RegionHeld3
namespace Go.Proofs.Ytlpcjnjhpgddmaa
open Go.RowKit
set_option linter.unusedVariables false
set_option linter.unusedSimpArgs false

/-- What was found of a date, and what is left. -/
structure Fd where
  l : List UInt8
  y : Int
  m : Int
  d : Int
  h : Int
  i : Int
  s : Int
  wk : Int
def fdC (f : Fd) : Array Value := #[.string (ofL f.l), .int .i64 f.y, .int .i64 f.m, .int .i64 f.d, .int .i64 f.h, .int .i64 f.i, .int .i64 f.s, .int .i64 f.wk]
theorem ofL_take (l : List UInt8) (k : Nat) : (ofL l).extract 0 k = ofL (l.take k) := by
  refine ba_ext ?_
  rw [Lib.extract_data]
  simp [ofL]
theorem ofL_drop (l : List UInt8) (k : Nat) : (ofL l).extract k (ofL l).size = ofL (l.drop k) := by
  refine ba_ext ?_
  rw [Lib.extract_data, ofL_size]
  have hd : (ofL l).data.toList = l := by simp [ofL]
  rw [hd, List.take_of_length_le (by rw [List.length_drop]; omega)]
  simp [ofL]
def numL (k : Nat) (l : List UInt8) : Option Int := if l.length < k then none else if numE 10 (ofL (l.take k)) 9999 = 0 then some (numV 10 (ofL (l.take k)) 9999) else none
def wdI (most : Nat) (l : List UInt8) : Option Nat := (List.range 7).find? fun i => Lib.hasPrefix l ((wdS i).data.toList.take most)
def moI (l : List UInt8) : Option Nat := (List.range 12).find? fun i => Lib.hasPrefix l (moS i).data.toList
def txL (p : List UInt8) (f : Fd) : Option Fd := if Lib.hasPrefix f.l p = true then some { f with l := f.l.drop p.length } else none
/-- One sign. -/
def oneS (c : Nat) (f : Fd) : Option Fd :=
  if c = 119 then (wdI 3 f.l).map fun (i : Nat) => { f with l := f.l.drop ((wdS i).data.toList.take 3).length, wk := i }
  else if c = 108 then (wdI 9 f.l).map fun (i : Nat) => { f with l := f.l.drop ((wdS i).data.toList.take 9).length, wk := i }
  else if c = 98 then (moI f.l).map fun (i : Nat) => { f with l := f.l.drop (moS i).data.toList.length, m := i + 1 }
  else if c = 112 then (if Lib.hasPrefix f.l [32] = true then (numL 1 (f.l.drop 1)).map fun n => { f with l := (f.l.drop 1).drop 1, d := n } else (numL 2 f.l).map fun n => { f with l := f.l.drop 2, d := n })
  else if c = 100 then (numL 2 f.l).map fun n => { f with l := f.l.drop 2, d := n }
  else if c = 121 then (numL 4 f.l).map fun n => { f with l := f.l.drop 4, y := n }
  else if c = 101 then (numL 2 f.l).map fun n => { f with l := f.l.drop 2, y := n }
  else if c = 104 then (numL 2 f.l).map fun n => { f with l := f.l.drop 2, h := n }
  else if c = 105 then (numL 2 f.l).map fun n => { f with l := f.l.drop 2, i := n }
  else if c = 115 then (numL 2 f.l).map fun n => { f with l := f.l.drop 2, s := n }
  else txL [UInt8.ofNat c] f
def allS : List UInt8 → Fd → Option Fd
  | [], f => if f.l = [] then some f else none
  | c :: cs, f => match oneS c.toNat f with | none => none | some g => allS cs g
def wdV : Value := .agg #[.string (wdS 0), .string (wdS 1), .string (wdS 2), .string (wdS 3), .string (wdS 4), .string (wdS 5), .string (wdS 6)]
def moV : Value := .agg #[.string (moS 0), .string (moS 1), .string (moS 2), .string (moS 3), .string (moS 4), .string (moS 5), .string (moS 6), .string (moS 7), .string (moS 8), .string (moS 9), .string (moS 10), .string (moS 11)]
set_option maxRecDepth 100000 in
set_option maxHeartbeats 1000000 in
theorem weekdays_any (w : World) : Calls Try.prog 83 #[] w fun e w' => e = .returned wdV ∧ Below w.heap.size w w' := by
  have k1 := heap_alloc_new w (.cells #[.string (wdS 0), .string (wdS 1), .string (wdS 2), .string (wdS 3), .string (wdS 4), .string (wdS 5), .string (wdS 6)] 119)
  have z0 := blk_cell (i := 0) k1 rfl
  have z1 := blk_cell (i := 1) k1 rfl
  have z2 := blk_cell (i := 2) k1 rfl
  have z3 := blk_cell (i := 3) k1 rfl
  have z4 := blk_cell (i := 4) k1 rfl
  have z5 := blk_cell (i := 5) k1 rfl
  have z6 := blk_cell (i := 6) k1 rfl
  go_enter Try.func83, Try.ntmps83
  go_wp2_with fail
  exact bodyPost_ret (v := wdV) (by simp [results, Try.results83, go_sem, z0, z1, z2, z3, z4, z5, z6] <;> rfl) rfl ⟨rfl, (Below.refl _ _).alloc (Nat.le_refl _) _⟩
set_option maxRecDepth 100000 in
set_option maxHeartbeats 1000000 in
theorem months_any (w : World) : Calls Try.prog 85 #[] w fun e w' => e = .returned moV ∧ Below w.heap.size w w' := by
  have k1 := heap_alloc_new w (.cells #[.string (moS 0), .string (moS 1), .string (moS 2), .string (moS 3), .string (moS 4), .string (moS 5), .string (moS 6), .string (moS 7), .string (moS 8), .string (moS 9), .string (moS 10), .string (moS 11)] 121)
  have z0 := blk_cell (i := 0) k1 rfl
  have z1 := blk_cell (i := 1) k1 rfl
  have z2 := blk_cell (i := 2) k1 rfl
  have z3 := blk_cell (i := 3) k1 rfl
  have z4 := blk_cell (i := 4) k1 rfl
  have z5 := blk_cell (i := 5) k1 rfl
  have z6 := blk_cell (i := 6) k1 rfl
  have z7 := blk_cell (i := 7) k1 rfl
  have z8 := blk_cell (i := 8) k1 rfl
  have z9 := blk_cell (i := 9) k1 rfl
  have z10 := blk_cell (i := 10) k1 rfl
  have z11 := blk_cell (i := 11) k1 rfl
  go_enter Try.func85, Try.ntmps85
  go_wp2_with fail
  exact bodyPost_ret (v := moV) (by simp [results, Try.results85, go_sem, z0, z1, z2, z3, z4, z5, z6, z7, z8, z9, z10, z11] <;> rfl) rfl ⟨rfl, (Below.refl _ _).alloc (Nat.le_refl _) _⟩
theorem idx_wd (k : Nat) (hk : k < 7) (w : World) : (Instr.index 119 wdV (.int .i64 (k : Int))).run Try.prog w = .ok (.string (wdS k)) w := by
  rcases (by omega : k = 0 ∨ k = 1 ∨ k = 2 ∨ k = 3 ∨ k = 4 ∨ k = 5 ∨ k = 6) with rfl | rfl | rfl | rfl | rfl | rfl | rfl
  all_goals kernel_rfl
theorem idx_mo (k : Nat) (hk : k < 12) (w : World) : (Instr.index 121 moV (.int .i64 (k : Int))).run Try.prog w = .ok (.string (moS k)) w := by
  rcases (by omega : k = 0 ∨ k = 1 ∨ k = 2 ∨ k = 3 ∨ k = 4 ∨ k = 5 ∨ k = 6 ∨ k = 7 ∨ k = 8 ∨ k = 9 ∨ k = 10 ∨ k = 11) with rfl | rfl | rfl | rfl | rfl | rfl | rfl | rfl | rfl | rfl | rfl | rfl
  all_goals kernel_rfl
/-- The name of a weekday, at most so many octets of it. -/
theorem wd_take (most : Nat) (hm : most = 3 ∨ most = 9) (k : Nat) (hk : k < 7) : ∃ n : Nat, n ≤ (wdS k).size ∧ (min (most : Int) ((wdS k).size : Int)) = (n : Int) ∧ (wdS k).extract 0 n = ofL ((wdS k).data.toList.take most) := by
  have h := wdS_size k hk
  have hs : (wdS k).size = (wdS k).data.toList.length := ba_size' _
  rcases hm with rfl | rfl
  · refine ⟨3, by omega, by omega, ?_⟩
    exact ba_ext (by rw [Lib.extract_data]; simp [ofL])
  · refine ⟨(wdS k).size, Nat.le_refl _, ?_, ?_⟩
    · omega
    · refine ba_ext ?_
      rw [Lib.extract_data, List.drop_zero, List.take_of_length_le (by omega), List.take_of_length_le (by omega)]
      simp [ofL]
theorem find_hit {n k : Nat} {P : Nat → Bool} (hk : k < n) (h : P k = true) (hb : ∀ j, j < k → P j = false) : (List.range n).find? P = some k := by
  rw [List.find?_range_eq_some]
  exact ⟨h, by simpa using hk, fun j hj => by rw [hb j hj]; rfl⟩
theorem find_none {n : Nat} {P : Nat → Bool} (hb : ∀ j, j < n → P j = false) : (List.range n).find? P = none := by
  rw [List.find?_range_eq_none]
  exact fun j hj => by rw [hb j hj]; rfl
/-- A number goes to one of the date's cells. -/
def Fd.put (f : Fd) : Nat → Int → Fd
  | 1, n => { f with y := n }
  | 3, n => { f with d := n }
  | 4, n => { f with h := n }
  | 5, n => { f with i := n }
  | 6, n => { f with s := n }
  | _, _ => f
theorem fdC_put {f : Fd} {j : Nat} (hj : j = 1 ∨ j = 3 ∨ j = 4 ∨ j = 5 ∨ j = 6) (n : Int) (L : List UInt8) : ((fdC f).setIfInBounds j (.int .i64 n)).setIfInBounds 0 (.string (ofL L)) = fdC { f.put j n with l := L } := by
  rcases hj with rfl | rfl | rfl | rfl | rfl <;> rfl
theorem fdC_int {f : Fd} {j : Nat} (hj : j = 1 ∨ j = 3 ∨ j = 4 ∨ j = 5 ∨ j = 6) : ∃ n : Int, (fdC f)[j]? = some (.int .i64 n) := by
  rcases hj with rfl | rfl | rfl | rfl | rfl <;> exact ⟨_, rfl⟩
/-- The signs of the patterns. -/
def alphaL : List Nat := [119, 44, 32, 100, 98, 121, 104, 58, 105, 115, 71, 77, 84, 108, 45, 101, 112]
end Go.Proofs.Ytlpcjnjhpgddmaa
