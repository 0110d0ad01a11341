/- First lines (layer 15): a head's first line, on both sides. -/
import Derived.Test.YtcbfhlnnfnpkdaaGreatDoorSts
import Derived.Test.YtcbfhlnnfnpkdaaGreatDoorRta
import Derived.Test.YtcbfhlnnfnpkdaaGreatDoorQs
namespace Go.Proofs.YtcbfhlnnfnpkdaaGreatDoor
open Go.RowKit
set_option linter.unusedVariables false
set_option linter.unusedSimpArgs false

/-- P15.4: the first line. -/
def lineH (m t : ByteArray) (mi st : Int) (r : ByteArray) : ByteArray := if m.size = 0 then verS mi ++ ⟨#[32]⟩ ++ ofL (padL st 3) ++ ⟨#[32]⟩ ++ r else m ++ ⟨#[32]⟩ ++ t ++ ⟨#[32]⟩ ++ verS mi
theorem verS_size (m : Int) : (verS m).size = 8 := by unfold verS; split <;> rfl
theorem padL_size (n : Int) : (ofL (padL n 3)).size ≤ 30 := by
  rw [ofL_size]
  unfold padL
  split
  · have := textL_len n; omega
  · exact Nat.le_trans (wdig_len 10 _ _) (by decide)
/-- The head's box stands. -/
structure HBx (m t : ByteArray) (mi st : Int) (r : ByteArray) (fa : Option Addr) (fn fc : Nat) (w w' : World) : Prop where
  box : w'.heap[w.heap.size]? = some (.cells #[.string m, .string t, .int .i64 mi, .int .i64 st, .string r, .slice fa fn fc] 29 (0, 0))
  bel : Below w.heap.size w w'
theorem HBx.below {m t : ByteArray} {mi st : Int} {r : ByteArray} {fa : Option Addr} {fn fc : Nat} {w w' w2 : World} (h : HBx m t mi st r fa fn fc w w') (hb : Below w'.heap.size w' w2) : HBx m t mi st r fa fn fc w w2 :=
  ⟨(hb.block _ (blk_lt h.box)).trans h.box, h.bel.trans (hb.mono h.bel.size)⟩
theorem HBx.new (m t : ByteArray) (mi st : Int) (r : ByteArray) (fa : Option Addr) (fn fc : Nat) (w : World) : HBx m t mi st r fa fn fc w (w.alloc (.cells #[.string m, .string t, .int .i64 mi, .int .i64 st, .string r, .slice fa fn fc] 29)) :=
  ⟨heap_alloc_new w _, (Below.refl _ _).alloc (Nat.le_refl _) _⟩
set_option maxRecDepth 100000 in
set_option maxHeartbeats 1000000 in
theorem line15_any (m t : ByteArray) (mi st : Int) (r : ByteArray) (fa : Option Addr) (fn fc : Nat) (w : World) (hm : m.size ≤ 1000000) (ht : t.size ≤ 1000000) (hr : r.size ≤ 1000000) (h0 : -9223372036854775808 ≤ st) (h1 : st ≤ 9223372036854775807) :
    Calls Tryz.prog 37 #[.agg #[.string m, .string t, .int .i64 mi, .int .i64 st, .string r, .slice fa fn fc]] w fun e w' => e = .returned (.string (lineH m t mi st r)) ∧ Below w.heap.size w w' := by
  have HX := Kp.mk (HBx.new m t mi st r fa fn fc w)
  have HD := Kp.mk (HX.out.below (gdrewN _ 1))
  have p0 := fun p : InS (HBx m t mi st r fa fn fc w) => blk_cell (i := 0) p.ok.box rfl
  have p1 := fun p : InS (HBx m t mi st r fa fn fc w) => blk_cell (i := 1) p.ok.box rfl
  have p2 := fun p : InS (HBx m t mi st r fa fn fc w) => blk_cell (i := 2) p.ok.box rfl
  have p3 := fun p : InS (HBx m t mi st r fa fn fc w) => blk_cell (i := 3) p.ok.box rfl
  have p4 := fun p : InS (HBx m t mi st r fa fn fc w) => blk_cell (i := 4) p.ok.box rfl
  have p5 := fun p : InS (HBx m t mi st r fa fn fc w) => blk_cell (i := 5) p.ok.box rfl
  haveI hne : Nonempty (InS (HBx m t mi st r fa fn fc w)) := ⟨⟨_, HX.out⟩⟩
  have hv := verS_size mi
  have hp := padL_size st
  by_cases hz : m.size = 0
  · have HL := Kp.mk (show lineH m t mi st r = verS mi ++ ⟨#[32]⟩ ++ ofL (padL st 3) ++ ⟨#[32]⟩ ++ r from if_pos hz)
    obtain rfl := emptyS hz
    clear hz
    go_enter Tryz.func37, Tryz.ntmps37
    go_wp2_with fail
    refine region_in _ (by kernel_rfl) (by kernel_rfl) HD.out ?_
    repeat (go_big_quiet_step (first
      | (go_at_call 86; exact call_in fun w h => (version_any mi w).mono fun _ _ h2 => ⟨h2.1, by rw [h2.2]; exact h⟩)
      | (go_at_call 87; exact call_in fun w h => (pad_any st 3 w h0 h1 (by omega) (by omega)).mono fun _ _ h2 => ⟨h2.1, h.below h2.2⟩)))
    refine wpQuiet_nil ?_
    intro _ hw'
    obtain ⟨wq, rfl⟩ := hw'
    go_wp2_with fail
    go_ret
    exact ⟨by rw [HL.out]; rfl, wq.ok.bel⟩
  · have HL := Kp.mk (show lineH m t mi st r = m ++ ⟨#[32]⟩ ++ t ++ ⟨#[32]⟩ ++ verS mi from if_neg hz)
    obtain ⟨e1, e2⟩ := emp_neS hz
    clear hz
    go_enter Tryz.func37, Tryz.ntmps37
    go_wp2_with fail
    refine region_in _ (by kernel_rfl) (by kernel_rfl) HD.out ?_
    repeat (go_big_quiet_step (first
      | (go_at_call 86; exact call_in fun w h => (version_any mi w).mono fun _ _ h2 => ⟨h2.1, by rw [h2.2]; exact h⟩)))
    refine wpQuiet_nil ?_
    intro _ hw'
    obtain ⟨wq, rfl⟩ := hw'
    go_wp2_with fail
    go_ret
    exact ⟨by rw [HL.out]; rfl, wq.ok.bel⟩
set_option maxRecDepth 100000 in
set_option maxHeartbeats 1000000 in
theorem rline15_any (m t : ByteArray) (mi st : Int) (r : ByteArray) (fa : Option Addr) (fn fc : Nat) (w : World) (hm : m.size ≤ 1000000) (ht : t.size ≤ 1000000) (hr : r.size ≤ 1000000) (h0 : -9223372036854775808 ≤ st) (h1 : st ≤ 9223372036854775807) :
    Calls Tryz.prog 40 #[.agg #[.string m, .string t, .int .i64 mi, .int .i64 st, .string r, .slice fa fn fc]] w fun e w' => e = .returned (.string (lineH m t mi st r)) ∧ Below w.heap.size w w' := by
  have HX := Kp.mk (HBx.new m t mi st r fa fn fc w)
  have HD := Kp.mk (HX.out.below (gdrewN _ 1))
  have p0 := fun p : InS (HBx m t mi st r fa fn fc w) => blk_cell (i := 0) p.ok.box rfl
  have p1 := fun p : InS (HBx m t mi st r fa fn fc w) => blk_cell (i := 1) p.ok.box rfl
  have p2 := fun p : InS (HBx m t mi st r fa fn fc w) => blk_cell (i := 2) p.ok.box rfl
  have p3 := fun p : InS (HBx m t mi st r fa fn fc w) => blk_cell (i := 3) p.ok.box rfl
  have p4 := fun p : InS (HBx m t mi st r fa fn fc w) => blk_cell (i := 4) p.ok.box rfl
  have p5 := fun p : InS (HBx m t mi st r fa fn fc w) => blk_cell (i := 5) p.ok.box rfl
  haveI hne : Nonempty (InS (HBx m t mi st r fa fn fc w)) := ⟨⟨_, HX.out⟩⟩
  have hv := verS_size mi
  have hp := padL_size st
  by_cases hz : m.size = 0
  · have HL := Kp.mk (show lineH m t mi st r = verS mi ++ ⟨#[32]⟩ ++ ofL (padL st 3) ++ ⟨#[32]⟩ ++ r from if_pos hz)
    obtain rfl := emptyS hz
    clear hz
    go_enter Tryz.func40, Tryz.ntmps40
    go_wp2_with fail
    refine region_in _ (by kernel_rfl) (by kernel_rfl) HD.out ?_
    repeat (go_big_quiet_step (first
      | (go_at_call 88; exact call_in fun w h => (rversion_any mi w).mono fun _ _ h2 => ⟨h2.1, by rw [h2.2]; exact h⟩)
      | (go_at_call 89; exact call_in fun w h => (rpad3_any st w h0 h1).mono fun _ _ h2 => ⟨h2.1, h.below h2.2⟩)))
    refine wpQuiet_nil ?_
    intro _ hw'
    obtain ⟨wq, rfl⟩ := hw'
    go_wp2_with fail
    go_ret
    exact ⟨by rw [HL.out]; rfl, wq.ok.bel⟩
  · have HL := Kp.mk (show lineH m t mi st r = m ++ ⟨#[32]⟩ ++ t ++ ⟨#[32]⟩ ++ verS mi from if_neg hz)
    obtain ⟨e1, e2⟩ := emp_neS hz
    clear hz
    go_enter Tryz.func40, Tryz.ntmps40
    go_wp2_with fail
    refine region_in _ (by kernel_rfl) (by kernel_rfl) HD.out ?_
    repeat (go_big_quiet_step (first
      | (go_at_call 88; exact call_in fun w h => (rversion_any mi w).mono fun _ _ h2 => ⟨h2.1, by rw [h2.2]; exact h⟩)))
    refine wpQuiet_nil ?_
    intro _ hw'
    obtain ⟨wq, rfl⟩ := hw'
    go_wp2_with fail
    go_ret
    exact ⟨by rw [HL.out]; rfl, wq.ok.bel⟩
theorem Tryz.cellsH24 : Tryz.prog.cellsOf 29 = 6 := by kernel_rfl
theorem Tryz.cellsH9 : Tryz.prog.cellsOf 9 = 1 := by kernel_rfl
theorem Tryz.cellsH3 : Tryz.prog.cellsOf 3 = 1 := by kernel_rfl
theorem Tryz.cellsH22 : Tryz.prog.cellsOf 27 = 1 := by kernel_rfl
theorem Tryz.cellsHF : Tryz.prog.cellsOf 67 = 2 := by kernel_rfl
set_option maxRecDepth 100000 in
theorem head_arg (v : Value) (w : World) (h : Arg Tryz.prog w 29 v) : ∃ (m t : ByteArray) (mi st : Int) (r : ByteArray) (fa : Option Addr) (fn fc : Nat), v = .agg #[.string m, .string t, .int .i64 mi, .int .i64 st, .string r, .slice fa fn fc] ∧ m.size ≤ maxLen ∧ t.size ≤ maxLen ∧ r.size ≤ maxLen ∧ -9223372036854775808 ≤ st ∧ st ≤ 9223372036854775807 := by
  obtain ⟨cs, rfl, hr⟩ := h.struct Tryz.underlying29
  obtain ⟨hl, hf⟩ := hr.struct Tryz.underlying29
  rw [Tryz.cellsH24] at hl
  have f0 : Rdb Tryz.prog w 9 ((cs.drop 0).take (Tryz.prog.cellsOf 9)) := hf 0 _ rfl
  rw [Tryz.cellsH9] at f0
  have f1 : Rdb Tryz.prog w 9 ((cs.drop 1).take (Tryz.prog.cellsOf 9)) := hf 1 _ rfl
  rw [Tryz.cellsH9] at f1
  have f2 : Rdb Tryz.prog w 3 ((cs.drop 2).take (Tryz.prog.cellsOf 3)) := hf 2 _ rfl
  rw [Tryz.cellsH3] at f2
  have f3 : Rdb Tryz.prog w 3 ((cs.drop 3).take (Tryz.prog.cellsOf 3)) := hf 3 _ rfl
  rw [Tryz.cellsH3] at f3
  have f4 : Rdb Tryz.prog w 9 ((cs.drop 4).take (Tryz.prog.cellsOf 9)) := hf 4 _ rfl
  rw [Tryz.cellsH9] at f4
  have f5 : Rdb Tryz.prog w 27 ((cs.drop 5).take (Tryz.prog.cellsOf 27)) := hf 5 _ rfl
  rw [Tryz.cellsH22] at f5
  obtain ⟨m, k0, z0⟩ := f0.str Tryz.underlying9
  obtain ⟨t, k1, z1⟩ := f1.str Tryz.underlying9
  obtain ⟨mi, k2, z2⟩ := f2.int Tryz.underlying3
  obtain ⟨st, k3, z3⟩ := f3.int Tryz.underlying3
  obtain ⟨r, k4, z4⟩ := f4.str Tryz.underlying9
  obtain ⟨u, ES, k5, ⟨fa, fc, hu, -⟩, -⟩ := f5.slice Tryz.underlying27 Tryz.cellsHF (by omega)
  obtain ⟨b0, b1⟩ := bounds_i64 z3
  match cs, hl with
  | [x0, x1, x2, x3, x4, x5], _ =>
    simp at k0 k1 k2 k3 k4 k5
    exact ⟨m, t, mi, st, r, fa, ES.length, fc, by rw [k0, k1, k2, k3, k4, k5, hu], z0, z1, z4, b0, b1⟩
end Go.Proofs.YtcbfhlnnfnpkdaaGreatDoor
