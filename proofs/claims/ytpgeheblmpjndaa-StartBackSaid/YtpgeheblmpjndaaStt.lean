/- First lines (layer 15): a head's first line, on both sides. -/
import Derived.Test.YtpgeheblmpjndaaSts
import Derived.Test.YtpgeheblmpjndaaRta
import Derived.Test.YtpgeheblmpjndaaQs
namespace Go.Proofs.Ytpgeheblmpjndaa
open Go.RowKit
set_option linter.unusedVariables false
set_option linter.unusedSimpArgs false

/-- P15.4: the first line. -/
def lineH (m t : ByteArray) (mi st : Int) (r : ByteArray) : ByteArray := if m.size = 0 then verS mi ++ ⟨#[32]⟩ ++ ofL (padL st 3) ++ ⟨#[32]⟩ ++ r else m ++ ⟨#[32]⟩ ++ t ++ ⟨#[32]⟩ ++ verS mi
theorem verS_size (m : Int) : (verS m).size = 8 := by unfold verS; split <;> rfl
theorem padL_size (n : Int) : (ofL (padL n 3)).size ≤ 30 := by
  rw [ofL_size]
  unfold padL
  split
  · have := textL_len n; omega
  · exact Nat.le_trans (wdig_len 10 _ _) (by decide)
/-- The head's box stands. -/
structure HBx (m t : ByteArray) (mi st : Int) (r : ByteArray) (fa : Option Addr) (fn fc : Nat) (w w' : World) : Prop where
  box : w'.heap[w.heap.size]? = some (.cells #[.string m, .string t, .int .i64 mi, .int .i64 st, .string r, .slice fa fn fc] 24 (0, 0))
  bel : Below w.heap.size w w'
theorem HBx.below {m t : ByteArray} {mi st : Int} {r : ByteArray} {fa : Option Addr} {fn fc : Nat} {w w' w2 : World} (h : HBx m t mi st r fa fn fc w w') (hb : Below w'.heap.size w' w2) : HBx m t mi st r fa fn fc w w2 :=
  ⟨(hb.block _ (blk_lt h.box)).trans h.box, h.bel.trans (hb.mono h.bel.size)⟩
theorem HBx.new (m t : ByteArray) (mi st : Int) (r : ByteArray) (fa : Option Addr) (fn fc : Nat) (w : World) : HBx m t mi st r fa fn fc w (w.alloc (.cells #[.string m, .string t, .int .i64 mi, .int .i64 st, .string r, .slice fa fn fc] 24)) :=
  ⟨heap_alloc_new w _, (Below.refl _ _).alloc (Nat.le_refl _) _⟩
set_option maxRecDepth 100000 in
set_option maxHeartbeats 1000000 in
theorem line15_any (m t : ByteArray) (mi st : Int) (r : ByteArray) (fa : Option Addr) (fn fc : Nat) (w : World) (hm : m.size ≤ 1000000) (ht : t.size ≤ 1000000) (hr : r.size ≤ 1000000) (h0 : -9223372036854775808 ≤ st) (h1 : st ≤ 9223372036854775807) :
    Calls Try.prog 12 #[.agg #[.string m, .string t, .int .i64 mi, .int .i64 st, .string r, .slice fa fn fc]] w fun e w' => e = .returned (.string (lineH m t mi st r)) ∧ Below w.heap.size w w' := by
  have HX := Kp.mk (HBx.new m t mi st r fa fn fc w)
  have HD := Kp.mk (HX.out.below (gdrewN _ 1))
  have p0 := fun p : InS (HBx m t mi st r fa fn fc w) => blk_cell (i := 0) p.ok.box rfl
  have p1 := fun p : InS (HBx m t mi st r fa fn fc w) => blk_cell (i := 1) p.ok.box rfl
  have p2 := fun p : InS (HBx m t mi st r fa fn fc w) => blk_cell (i := 2) p.ok.box rfl
  have p3 := fun p : InS (HBx m t mi st r fa fn fc w) => blk_cell (i := 3) p.ok.box rfl
  have p4 := fun p : InS (HBx m t mi st r fa fn fc w) => blk_cell (i := 4) p.ok.box rfl
  have p5 := fun p : InS (HBx m t mi st r fa fn fc w) => blk_cell (i := 5) p.ok.box rfl
  haveI hne : Nonempty (InS (HBx m t mi st r fa fn fc w)) := ⟨⟨_, HX.out⟩⟩
  have hv := verS_size mi
  have hp := padL_size st
  by_cases hz : m.size = 0
  · have HL := Kp.mk (show lineH m t mi st r = verS mi ++ ⟨#[32]⟩ ++ ofL (padL st 3) ++ ⟨#[32]⟩ ++ r from if_pos hz)
    obtain rfl := emptyS hz
    clear hz
    go_enter Try.func12, Try.ntmps12
    go_wp2_with fail
    refine region_in _ (by kernel_rfl) (by kernel_rfl) HD.out ?_
    repeat (go_big_quiet_step (first
      | (go_at_call 14; exact call_in fun w h => (version_any mi w).mono fun _ _ h2 => ⟨h2.1, by rw [h2.2]; exact h⟩)
      | (go_at_call 44; exact call_in fun w h => (pad_any st 3 w h0 h1 (by omega) (by omega)).mono fun _ _ h2 => ⟨h2.1, h.below h2.2⟩)))
    refine wpQuiet_nil ?_
    intro _ hw'
    obtain ⟨wq, rfl⟩ := hw'
    go_wp2_with fail
    go_ret
    exact ⟨by rw [HL.out]; rfl, wq.ok.bel⟩
  · have HL := Kp.mk (show lineH m t mi st r = m ++ ⟨#[32]⟩ ++ t ++ ⟨#[32]⟩ ++ verS mi from if_neg hz)
    obtain ⟨e1, e2⟩ := emp_neS hz
    clear hz
    go_enter Try.func12, Try.ntmps12
    go_wp2_with fail
    refine region_in _ (by kernel_rfl) (by kernel_rfl) HD.out ?_
    repeat (go_big_quiet_step (first
      | (go_at_call 14; exact call_in fun w h => (version_any mi w).mono fun _ _ h2 => ⟨h2.1, by rw [h2.2]; exact h⟩)))
    refine wpQuiet_nil ?_
    intro _ hw'
    obtain ⟨wq, rfl⟩ := hw'
    go_wp2_with fail
    go_ret
    exact ⟨by rw [HL.out]; rfl, wq.ok.bel⟩
set_option maxRecDepth 100000 in
set_option maxHeartbeats 1000000 in
theorem rline15_any (m t : ByteArray) (mi st : Int) (r : ByteArray) (fa : Option Addr) (fn fc : Nat) (w : World) (hm : m.size ≤ 1000000) (ht : t.size ≤ 1000000) (hr : r.size ≤ 1000000) (h0 : -9223372036854775808 ≤ st) (h1 : st ≤ 9223372036854775807) :
    Calls Try.prog 13 #[.agg #[.string m, .string t, .int .i64 mi, .int .i64 st, .string r, .slice fa fn fc]] w fun e w' => e = .returned (.string (lineH m t mi st r)) ∧ Below w.heap.size w w' := by
  have HX := Kp.mk (HBx.new m t mi st r fa fn fc w)
  have HD := Kp.mk (HX.out.below (gdrewN _ 1))
  have p0 := fun p : InS (HBx m t mi st r fa fn fc w) => blk_cell (i := 0) p.ok.box rfl
  have p1 := fun p : InS (HBx m t mi st r fa fn fc w) => blk_cell (i := 1) p.ok.box rfl
  have p2 := fun p : InS (HBx m t mi st r fa fn fc w) => blk_cell (i := 2) p.ok.box rfl
  have p3 := fun p : InS (HBx m t mi st r fa fn fc w) => blk_cell (i := 3) p.ok.box rfl
  have p4 := fun p : InS (HBx m t mi st r fa fn fc w) => blk_cell (i := 4) p.ok.box rfl
  have p5 := fun p : InS (HBx m t mi st r fa fn fc w) => blk_cell (i := 5) p.ok.box rfl
  haveI hne : Nonempty (InS (HBx m t mi st r fa fn fc w)) := ⟨⟨_, HX.out⟩⟩
  have hv := verS_size mi
  have hp := padL_size st
  by_cases hz : m.size = 0
  · have HL := Kp.mk (show lineH m t mi st r = verS mi ++ ⟨#[32]⟩ ++ ofL (padL st 3) ++ ⟨#[32]⟩ ++ r from if_pos hz)
    obtain rfl := emptyS hz
    clear hz
    go_enter Try.func13, Try.ntmps13
    go_wp2_with fail
    refine region_in _ (by kernel_rfl) (by kernel_rfl) HD.out ?_
    repeat (go_big_quiet_step (first
      | (go_at_call 15; exact call_in fun w h => (rversion_any mi w).mono fun _ _ h2 => ⟨h2.1, by rw [h2.2]; exact h⟩)
      | (go_at_call 45; exact call_in fun w h => (rpad3_any st w h0 h1).mono fun _ _ h2 => ⟨h2.1, h.below h2.2⟩)))
    refine wpQuiet_nil ?_
    intro _ hw'
    obtain ⟨wq, rfl⟩ := hw'
    go_wp2_with fail
    go_ret
    exact ⟨by rw [HL.out]; rfl, wq.ok.bel⟩
  · have HL := Kp.mk (show lineH m t mi st r = m ++ ⟨#[32]⟩ ++ t ++ ⟨#[32]⟩ ++ verS mi from if_neg hz)
    obtain ⟨e1, e2⟩ := emp_neS hz
    clear hz
    go_enter Try.func13, Try.ntmps13
    go_wp2_with fail
    refine region_in _ (by kernel_rfl) (by kernel_rfl) HD.out ?_
    repeat (go_big_quiet_step (first
      | (go_at_call 15; exact call_in fun w h => (rversion_any mi w).mono fun _ _ h2 => ⟨h2.1, by rw [h2.2]; exact h⟩)))
    refine wpQuiet_nil ?_
    intro _ hw'
    obtain ⟨wq, rfl⟩ := hw'
    go_wp2_with fail
    go_ret
    exact ⟨by rw [HL.out]; rfl, wq.ok.bel⟩
set_option maxRecDepth 100000 in
set_option maxHeartbeats 2000000 in
theorem slin_walk (m t : ByteArray) (mi st : Int) (r : ByteArray) (fa : Option Addr) (fn fc : Nat) (w : World) (hm : m.size ≤ maxLen) (ht : t.size ≤ maxLen) (hr : r.size ≤ maxLen) (h0 : -9223372036854775808 ≤ st) (h1 : st ≤ 9223372036854775807) :
    Calls Try.prog 3 #[.agg #[.string m, .string t, .int .i64 mi, .int .i64 st, .string r, .slice fa fn fc]] w fun e w' => e = .returned (.bool true) ∧ Below w.heap.size w w' := by
  have HX := Kp.mk (HBx.new m t mi st r fa fn fc w)
  have HD := Kp.mk (HX.out.below (gdrewN _ 1))
  have p0 := fun p : InS (HBx m t mi st r fa fn fc w) => blk_cell (i := 0) p.ok.box rfl
  have p1 := fun p : InS (HBx m t mi st r fa fn fc w) => blk_cell (i := 1) p.ok.box rfl
  have p2 := fun p : InS (HBx m t mi st r fa fn fc w) => blk_cell (i := 2) p.ok.box rfl
  have p3 := fun p : InS (HBx m t mi st r fa fn fc w) => blk_cell (i := 3) p.ok.box rfl
  have p4 := fun p : InS (HBx m t mi st r fa fn fc w) => blk_cell (i := 4) p.ok.box rfl
  have p5 := fun p : InS (HBx m t mi st r fa fn fc w) => blk_cell (i := 5) p.ok.box rfl
  haveI hne : Nonempty (InS (HBx m t mi st r fa fn fc w)) := ⟨⟨_, HX.out⟩⟩
  by_cases hok : m.size ≤ 1000 ∧ t.size ≤ 1000 ∧ r.size ≤ 1000
  · obtain ⟨a1, a2, a3⟩ := hok
    have q1 : ¬ (1000 : Int) < (m.size : Int) := by omega
    have q2 : ¬ (1000 : Int) < (t.size : Int) := by omega
    have q3 : ¬ (1000 : Int) < (r.size : Int) := by omega
    have b1 : m.size ≤ 1000000 := by omega
    have b2 : t.size ≤ 1000000 := by omega
    have b3 : r.size ≤ 1000000 := by omega
    have e1 : ((lineH m t mi st r).toList == (lineH m t mi st r).toList) = true := beq_self_eq_true _
    have e2 : ((verS mi).toList == (verS mi).toList) = true := beq_self_eq_true _
    go_enter Try.func3, Try.ntmps3
    go_wp2_with fail
    refine region_in _ (by kernel_rfl) (by kernel_rfl) HD.out ?_
    repeat (go_big_quiet_step (first
      | (go_at_call 12; exact call_in fun w h => (line15_any _ _ _ _ _ _ _ _ w b1 b2 b3 h0 h1).mono fun _ _ h2 => ⟨h2.1, h.below h2.2⟩)
      | (go_at_call 13; exact call_in fun w h => (rline15_any _ _ _ _ _ _ _ _ w b1 b2 b3 h0 h1).mono fun _ _ h2 => ⟨h2.1, h.below h2.2⟩)
      | (go_at_call 14; exact call_in fun w h => (version_any mi w).mono fun _ _ h2 => ⟨h2.1, by rw [h2.2]; exact h⟩)
      | (go_at_call 15; exact call_in fun w h => (rversion_any mi w).mono fun _ _ h2 => ⟨h2.1, by rw [h2.2]; exact h⟩)
      | (go_at_call 11; exact call_in fun w h => (lives15_any _).mono fun _ _ h2 => ⟨h2.1, h.below h2.2⟩)))
    refine wpQuiet_nil ?_
    intro _ hw'
    obtain ⟨wq, rfl⟩ := hw'
    go_wp2_with fail
    go_ret
    exact ⟨rfl, wq.ok.bel⟩
  · have hc : (1000 : Int) < (m.size : Int) ∨ (¬ (1000 : Int) < (m.size : Int) ∧ (1000 : Int) < (t.size : Int)) ∨ (¬ (1000 : Int) < (m.size : Int) ∧ ¬ (1000 : Int) < (t.size : Int) ∧ (1000 : Int) < (r.size : Int)) := by omega
    clear hok
    rcases hc with q1 | ⟨q1, q2⟩ | ⟨q1, q2, q3⟩
    all_goals
      go_enter Try.func3, Try.ntmps3
      go_wp2_with fail
      refine (lives15_any _).mono ?_
      rintro e w2 ⟨rfl, hb2⟩
      have HB2 := Kp.mk (HX.out.bel.trans (hb2.mono HX.out.bel.size))
      clear hb2
      go_wp2_with fail
      go_ret
      exact ⟨rfl, HB2.out⟩
theorem Try.cellsH24 : Try.prog.cellsOf 24 = 6 := by kernel_rfl
theorem Try.cellsH9 : Try.prog.cellsOf 9 = 1 := by kernel_rfl
theorem Try.cellsH3 : Try.prog.cellsOf 3 = 1 := by kernel_rfl
theorem Try.cellsH22 : Try.prog.cellsOf 22 = 1 := by kernel_rfl
theorem Try.cellsHF : Try.prog.cellsOf 43 = 2 := by kernel_rfl
set_option maxRecDepth 100000 in
theorem head_arg (v : Value) (w : World) (h : Arg Try.prog w 24 v) : ∃ (m t : ByteArray) (mi st : Int) (r : ByteArray) (fa : Option Addr) (fn fc : Nat), v = .agg #[.string m, .string t, .int .i64 mi, .int .i64 st, .string r, .slice fa fn fc] ∧ m.size ≤ maxLen ∧ t.size ≤ maxLen ∧ r.size ≤ maxLen ∧ -9223372036854775808 ≤ st ∧ st ≤ 9223372036854775807 := by
  obtain ⟨cs, rfl, hr⟩ := h.struct Try.underlying24
  obtain ⟨hl, hf⟩ := hr.struct Try.underlying24
  rw [Try.cellsH24] at hl
  have f0 : Rdb Try.prog w 9 ((cs.drop 0).take (Try.prog.cellsOf 9)) := hf 0 _ rfl
  rw [Try.cellsH9] at f0
  have f1 : Rdb Try.prog w 9 ((cs.drop 1).take (Try.prog.cellsOf 9)) := hf 1 _ rfl
  rw [Try.cellsH9] at f1
  have f2 : Rdb Try.prog w 3 ((cs.drop 2).take (Try.prog.cellsOf 3)) := hf 2 _ rfl
  rw [Try.cellsH3] at f2
  have f3 : Rdb Try.prog w 3 ((cs.drop 3).take (Try.prog.cellsOf 3)) := hf 3 _ rfl
  rw [Try.cellsH3] at f3
  have f4 : Rdb Try.prog w 9 ((cs.drop 4).take (Try.prog.cellsOf 9)) := hf 4 _ rfl
  rw [Try.cellsH9] at f4
  have f5 : Rdb Try.prog w 22 ((cs.drop 5).take (Try.prog.cellsOf 22)) := hf 5 _ rfl
  rw [Try.cellsH22] at f5
  obtain ⟨m, k0, z0⟩ := f0.str Try.underlying9
  obtain ⟨t, k1, z1⟩ := f1.str Try.underlying9
  obtain ⟨mi, k2, z2⟩ := f2.int Try.underlying3
  obtain ⟨st, k3, z3⟩ := f3.int Try.underlying3
  obtain ⟨r, k4, z4⟩ := f4.str Try.underlying9
  obtain ⟨u, ES, k5, ⟨fa, fc, hu, -⟩, -⟩ := f5.slice Try.underlying22 Try.cellsHF (by omega)
  obtain ⟨b0, b1⟩ := bounds_i64 z3
  match cs, hl with
  | [x0, x1, x2, x3, x4, x5], _ =>
    simp at k0 k1 k2 k3 k4 k5
    exact ⟨m, t, mi, st, r, fa, ES.length, fc, by rw [k0, k1, k2, k3, k4, k5, hu], z0, z1, z4, b0, b1⟩
theorem slin_arg (v0 : Value) (w : World) (h0 : Arg Try.prog w 24 v0) :
    Calls Try.prog 3 #[v0] w fun e w' => e = .returned (.bool true) ∧ Below w.heap.size w w' := by
  obtain ⟨m, t, mi, st, r, fa, fn, fc, rfl, hm, ht, hr, b0, b1⟩ := head_arg v0 w h0
  exact slin_walk m t mi st r fa fn fc w hm ht hr b0 b1
end Go.Proofs.Ytpgeheblmpjndaa
