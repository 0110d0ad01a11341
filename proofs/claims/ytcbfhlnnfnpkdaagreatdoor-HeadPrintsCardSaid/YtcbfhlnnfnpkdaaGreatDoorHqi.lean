/- Heads (layer 22): a short head; a head as an argument; the law HeadPrints (bin/mkhqi.py, out of Caq). -/
import Derived.Test.YtcbfhlnnfnpkdaaGreatDoorHqh
import Derived.Test.YtcbfhlnnfnpkdaaGreatDoorFew
namespace Go.Proofs.YtcbfhlnnfnpkdaaGreatDoor
open Go.RowKit
set_option linter.unusedVariables false
set_option linter.unusedSimpArgs false

def hdC (M T : ByteArray) (mi st : Int) (R : ByteArray) (v : Value) : Array Value := #[.string M, .string T, .int .i64 mi, .int .i64 st, .string R, v]
structure Bx1 (h : Nat) (t1 : TypeId) (c1 : Array Value) (w W : World) : Prop where
  b1 : W.heap[h]? = some (.cells c1 t1 (0, 0))
  bel : Below h w W
theorem Bx1.new (w : World) (t1 : TypeId) (c1 : Array Value) : Bx1 w.heap.size t1 c1 w (w.alloc (.cells c1 t1)) :=
  ⟨heap_alloc_new w _, (Below.refl _ w).alloc (Nat.le_refl _) _⟩
theorem Bx1.call {h : Nat} {t1 : TypeId} {c1 : Array Value} {w W W' : World} (H : Bx1 h t1 c1 w W) (hb : Below W.heap.size W W') : Bx1 h t1 c1 w W' :=
  ⟨(hb.block h (blk_lt H.b1)).trans H.b1, H.bel.trans (hb.mono (by have := blk_lt H.b1; omega))⟩
theorem Bx1.alloc {h : Nat} {t1 : TypeId} {c1 : Array Value} {w W : World} (H : Bx1 h t1 c1 w W) (o : Obj) : Bx1 h t1 c1 w (W.alloc o) :=
  H.call ((Below.refl _ W).alloc (Nat.le_refl _) o)
def shB (M T R : ByteArray) (l : List Fld) : Bool := hFew l && (decide (M.size ≤ 100) && (decide (T.size ≤ 500) && decide (R.size ≤ 300)))
theorem shB_out {M T R : ByteArray} {l : List Fld} (h : shB M T R l = true) : hFew l = true ∧ M.size ≤ 100 ∧ T.size ≤ 500 ∧ R.size ≤ 300 := by
  unfold shB at h
  rw [Bool.and_eq_true, Bool.and_eq_true, Bool.and_eq_true] at h
  exact ⟨h.1, of_decide_eq_true h.2.1, of_decide_eq_true h.2.2.1, of_decide_eq_true h.2.2.2⟩
set_option maxRecDepth 100000 in
set_option maxHeartbeats 2000000 in
theorem short_any (M T R : ByteArray) (mi st : Int) (v : Value) (l : List Fld) (w : World) (hv : RdF w v l) (hz : ∀ p ∈ l, FldOk p) (hm : M.size ≤ maxLen) (ht : T.size ≤ maxLen) (hr : R.size ≤ maxLen) :
    Calls Tryz.prog 12 #[.agg #[.string M, .string T, .int .i64 mi, .int .i64 st, .string R, v]] w fun e w' => e = .returned (.bool (shB M T R l)) ∧ Below w.heap.size w w' := by
  unfold maxLen at hm ht hr
  have HV := Kp.mk hv
  have HF := Kp.mk (fun w hv => few10_any v l w hv hz)
  have HS := Kp.mk (show shB M T R l = (hFew l && (decide (M.size ≤ 100) && (decide (T.size ≤ 500) && decide (R.size ≤ 300)))) from rfl)
  obtain ⟨ad, cap, rfl, -, -, -⟩ := hv
  generalize shB M T R l = S at *
  generalize hFew l = F at *
  have HB := Kp.mk (Bx1.new w 29 (hdC M T mi st R (.slice ad l.length cap)))
  unfold hdC at HB
  clear hz
  have d0 := blk_cell (i := 0) HB.out.b1 rfl
  have d1 := blk_cell (i := 1) HB.out.b1 rfl
  have d2 := blk_cell (i := 2) HB.out.b1 rfl
  have d3 := blk_cell (i := 3) HB.out.b1 rfl
  have d4 := blk_cell (i := 4) HB.out.b1 rfl
  have d5 := blk_cell (i := 5) HB.out.b1 rfl
  go_enter Tryz.func12, Tryz.ntmps12
  go_wp2_with fail
  refine (HF.out _ (HV.out.below HB.out.bel)).mono ?_
  rintro e w9 ⟨rfl, hb9⟩
  replace HB := Kp.mk (HB.out.call hb9)
  clear hb9 d0 d1 d2 d3 d4 d5
  have d0 := blk_cell (i := 0) HB.out.b1 rfl
  have d1 := blk_cell (i := 1) HB.out.b1 rfl
  have d2 := blk_cell (i := 2) HB.out.b1 rfl
  have d3 := blk_cell (i := 3) HB.out.b1 rfl
  have d4 := blk_cell (i := 4) HB.out.b1 rfl
  have d5 := blk_cell (i := 5) HB.out.b1 rfl
  cases F
  · go_wp2_with fail
    go_ret
    exact ⟨by rw [HS.out] <;> rfl, HB.out.bel⟩
  · by_cases h1 : M.size ≤ 100
    · have q1 : (M.size : Int) ≤ 100 := by omega
      by_cases h2 : T.size ≤ 500
      · have q2 : (T.size : Int) ≤ 500 := by omega
        have hi : decide ((R.size : Int) ≤ 300) = decide (R.size ≤ 300) := by
          by_cases q : R.size ≤ 300
          · rw [decide_eq_true q, decide_eq_true (by omega)]
          · rw [decide_eq_false q, decide_eq_false (by omega)]
        have HI := Kp.mk hi
        replace HS := Kp.mk (HS.out.trans (show _ = decide ((R.size : Int) ≤ 300) by rw [decide_eq_true h1, decide_eq_true h2, hi]; rfl))
        clear hi h1 h2
        go_wp2_with fail
        go_ret
        exact ⟨by rw [HS.out] <;> first | rfl | simp, HB.out.bel⟩
      · have q2 : ¬ (T.size : Int) ≤ 500 := by omega
        replace HS := Kp.mk (HS.out.trans (show _ = false by rw [decide_eq_true h1, decide_eq_false h2]; rfl))
        clear h1 h2
        go_wp2_with fail
        go_ret
        exact ⟨by rw [HS.out] <;> rfl, HB.out.bel⟩
    · have q1 : ¬ (M.size : Int) ≤ 100 := by omega
      replace HS := Kp.mk (HS.out.trans (show _ = false by rw [decide_eq_false h1]; rfl))
      clear h1
      go_wp2_with fail
      go_ret
      exact ⟨by rw [HS.out] <;> rfl, HB.out.bel⟩
theorem fldOk_list (v : Value) (w : World) (cs : List Value) (hc : cs = [v]) (h : Rdb Tryz.prog w 27 cs) : ∃ l, RdF w v l ∧ ∀ p ∈ l, FldOk p := by
  obtain ⟨v2, l, h1, h2, h3⟩ := h.list (f := fldC) (Q := FldOk) Tryz.underlying27 Tryz.fcellsFld (by omega) fun E hE => fld_of Tryz.underlying67 Tryz.underlying9 Tryz.fcellsFld Tryz.fcellsFs ⟨_, rfl, rfl, rfl⟩ ⟨_, rfl, rfl, rfl⟩ hE
  rw [hc] at h1
  cases h1
  exact ⟨l, h2, h3⟩
theorem Tryz.cellsHd : Tryz.prog.cellsOf 29 = 6 := by kernel_rfl
theorem Tryz.cellsHi : Tryz.prog.cellsOf 3 = 1 := by kernel_rfl
theorem Tryz.cellsHl : Tryz.prog.cellsOf 27 = 1 := by kernel_rfl
set_option maxRecDepth 100000 in
theorem head_arg23 (v : Value) (w : World) (h : Arg Tryz.prog w 29 v) : ∃ (m t : ByteArray) (mi st : Int) (r : ByteArray) (u : Value) (l : List Fld), v = .agg #[.string m, .string t, .int .i64 mi, .int .i64 st, .string r, u] ∧ RdF w u l ∧ (∀ p ∈ l, FldOk p) ∧ m.size ≤ maxLen ∧ t.size ≤ maxLen ∧ r.size ≤ maxLen ∧ (-9223372036854775808 ≤ mi ∧ mi ≤ 9223372036854775807) ∧ -9223372036854775808 ≤ st ∧ st ≤ 9223372036854775807 := by
  obtain ⟨cs, rfl, hr⟩ := h.struct Tryz.underlying29
  obtain ⟨hl, hf⟩ := hr.struct Tryz.underlying29
  rw [Tryz.cellsHd] at hl
  have f0 : Rdb Tryz.prog w 9 ((cs.drop 0).take (Tryz.prog.cellsOf 9)) := hf 0 _ rfl
  have f1 : Rdb Tryz.prog w 9 ((cs.drop 1).take (Tryz.prog.cellsOf 9)) := hf 1 _ rfl
  have f2 : Rdb Tryz.prog w 3 ((cs.drop 2).take (Tryz.prog.cellsOf 3)) := hf 2 _ rfl
  have f3 : Rdb Tryz.prog w 3 ((cs.drop 3).take (Tryz.prog.cellsOf 3)) := hf 3 _ rfl
  have f4 : Rdb Tryz.prog w 9 ((cs.drop 4).take (Tryz.prog.cellsOf 9)) := hf 4 _ rfl
  have f5 : Rdb Tryz.prog w 27 ((cs.drop 5).take (Tryz.prog.cellsOf 27)) := hf 5 _ rfl
  rw [Tryz.fcellsFs] at f0 f1 f4
  rw [Tryz.cellsHi] at f2 f3
  rw [Tryz.cellsHl] at f5
  match cs, hl with
  | [x0, x1, x2, x3, x4, x5], _ =>
    obtain ⟨m, k0, z0⟩ := f0.str Tryz.underlying9
    obtain ⟨t, k1, z1⟩ := f1.str Tryz.underlying9
    obtain ⟨mi, k2, z2⟩ := f2.int Tryz.underlying3
    obtain ⟨st, k3, z3⟩ := f3.int Tryz.underlying3
    obtain ⟨r, k4, z4⟩ := f4.str Tryz.underlying9
    obtain ⟨l, k5, z5⟩ := fldOk_list x5 w _ rfl f5
    obtain ⟨b0, b1⟩ := bounds_i64 z3
    obtain ⟨b2, b3⟩ := bounds_i64 z2
    simp at k0 k1 k2 k3 k4
    exact ⟨m, t, mi, st, r, x5, l, by rw [k0, k1, k2, k3, k4], k5, z5, z0, z1, z4, ⟨b2, b3⟩, b0, b1⟩
set_option maxRecDepth 100000 in
set_option maxHeartbeats 4000000 in
theorem hprints_walk (m t : ByteArray) (mi st : Int) (r : ByteArray) (v : Value) (l : List Fld) (w : World) (hv : RdF w v l) (hz : ∀ p ∈ l, FldOk p) (hm : m.size ≤ maxLen) (ht : t.size ≤ maxLen) (hr : r.size ≤ maxLen) (h0 : -9223372036854775808 ≤ st) (h1 : st ≤ 9223372036854775807) :
    Calls Tryz.prog 4 #[.agg #[.string m, .string t, .int .i64 mi, .int .i64 st, .string r, v]] w fun e w' => e = .returned (.bool true) ∧ Below w.heap.size w w' := by
  have HV := Kp.mk hv
  have HSH := Kp.mk (fun w hv => short_any m t r mi st v l w hv hz hm ht hr)
  have HOUT := Kp.mk (fun h => shB_out (M := m) (T := t) (R := r) (l := l) h)
  obtain ⟨a, c, rfl, -, -, -⟩ := hv
  have HX0 := Kp.mk (HBq.new m t mi st r (.slice a l.length c) w)
  generalize shB m t r l = B at *
  clear hz hm ht hr
  go_enter Tryz.func4, Tryz.ntmps4
  go_wp2_with fail
  refine (HSH.out _ (HV.out.below HX0.out.bel)).mono ?_
  rintro e w1 ⟨rfl, hb1⟩
  have HX1 := Kp.mk (HX0.out.next hb1)
  clear hb1 HX0 HSH
  cases B
  · go_wp2_with fail
    refine (lives22_any _).mono ?_
    rintro e w2 ⟨rfl, hb2⟩
    go_wp2_with fail
    go_ret
    exact ⟨rfl, HX1.out.bel.trans (hb2.mono HX1.out.bel.size)⟩
  · obtain ⟨hf, hm2, ht2, hr2⟩ := HOUT.out rfl
    obtain ⟨hfl, hfz⟩ := hFew_out hf
    have HM := Kp.mk (show m.size ≤ 100000 ∧ t.size ≤ 100000 ∧ r.size ≤ 100000 by omega)
    have HL := Kp.mk (show l.length ≤ 10000 by omega)
    have HZ := Kp.mk hfz
    clear hf hm2 ht2 hr2 hfl hfz HOUT
    have HPR := Kp.mk (fun w' (h : HBq m t mi st r (.slice a l.length c) w w') => hprint22_any m t mi st r (.slice a l.length c) l w' (HV.out.below h.bel) HL.out HZ.out HM.out.1 HM.out.2.1 HM.out.2.2 h0 h1)
    have HRP := Kp.mk (fun w' (h : HBq m t mi st r (.slice a l.length c) w w') => rprint22_any m t mi st r (.slice a l.length c) l w' (HV.out.below h.bel) HL.out HZ.out HM.out.1 HM.out.2.1 HM.out.2.2 h0 h1)
    have HRI := Kp.mk (fun w' (h : HBq m t mi st r (.slice a l.length c) w w') => hright22_any m t mi st r (.slice a l.length c) l w' (HV.out.below h.bel) HL.out HZ.out HM.out.1 HM.out.2.1 HM.out.2.2)
    have HRR := Kp.mk (fun w' (h : HBq m t mi st r (.slice a l.length c) w w') => rright22_any m t mi st r (.slice a l.length c) l w' (HV.out.below h.bel) HL.out HZ.out HM.out.1 HM.out.2.1 HM.out.2.2)
    generalize prnB m t mi st r l = TX at *
    generalize rightH m t mi st r l = RR at *
    have p0 := fun p : InS (HBq m t mi st r (.slice a l.length c) w) => blk_cell (i := 0) p.ok.box rfl
    have p1 := fun p : InS (HBq m t mi st r (.slice a l.length c) w) => blk_cell (i := 1) p.ok.box rfl
    have p2 := fun p : InS (HBq m t mi st r (.slice a l.length c) w) => blk_cell (i := 2) p.ok.box rfl
    have p3 := fun p : InS (HBq m t mi st r (.slice a l.length c) w) => blk_cell (i := 3) p.ok.box rfl
    have p4 := fun p : InS (HBq m t mi st r (.slice a l.length c) w) => blk_cell (i := 4) p.ok.box rfl
    have p5 := fun p : InS (HBq m t mi st r (.slice a l.length c) w) => blk_cell (i := 5) p.ok.box rfl
    haveI hne : Nonempty (InS (HBq m t mi st r (.slice a l.length c) w)) := ⟨⟨_, HX1.out⟩⟩
    have HD := Kp.mk (HX1.out.next (gdrewN _ 1))
    go_upto_region 3 with fail
    refine region_in _ (by kernel_rfl) (by kernel_rfl) HD.out ?_
    repeat (first
      | go_big_quiet_skip
      | (go_big_quiet_step ((first
        | (go_at_call 13; exact call_in fun w' h => (HPR.out w' h).mono fun _ _ h2 => ⟨h2.1, h.next h2.2⟩)
        | (go_at_call 14; exact call_in fun w' h => (HRP.out w' h).mono fun _ _ h2 => ⟨h2.1, h.next h2.2⟩)
        | (go_at_call 15; exact call_in fun w' h => (HRI.out w' h).mono fun _ _ h2 => ⟨h2.1, h.next h2.2⟩)
        | (go_at_call 16; exact call_in fun w' h => (HRR.out w' h).mono fun _ _ h2 => ⟨h2.1, h.next h2.2⟩)
        | (go_at_call 8; exact call_in fun w' h => (lives22_any w').mono fun _ _ h2 => ⟨h2.1, h.next h2.2⟩)))))
    refine wpQuiet_nil ?_
    intro _ hw'
    obtain ⟨wq, rfl⟩ := hw'
    go_wp2_with fail
    go_ret
    exact ⟨rfl, wq.ok.bel⟩
theorem hprints_arg (v0 : Value) (w : World) (h0 : Arg Tryz.prog w 29 v0) :
    Calls Tryz.prog 4 #[v0] w fun e w' => e = .returned (.bool true) ∧ Below w.heap.size w w' := by
  obtain ⟨m, t, mi, st, r, u, l, rfl, hu, hz, hm, ht, hr, hmi, hs0, hs1⟩ := head_arg23 v0 w h0
  exact hprints_walk m t mi st r u l w hu hz hm ht hr hs0 hs1
end Go.Proofs.YtcbfhlnnfnpkdaaGreatDoor
