/- Heads (layer 22): the law HeadParses (bin/mkhql.py). -/
import Derived.Test.YtcbfhlnnfnpkdaaGreatDoorHqj
import Derived.Test.YtcbfhlnnfnpkdaaGreatDoorHqh
namespace Go.Proofs.YtcbfhlnnfnpkdaaGreatDoor
open Go.RowKit
set_option linter.unusedVariables false
set_option linter.unusedSimpArgs false

def fewL (L : List ByteArray) : Bool := decide (L.length ≤ 60) && L.all fun s => decide (s.size ≤ 300)
theorem fewL_big {L : List ByteArray} (h : ¬ L.length ≤ 60) : fewL L = false := by unfold fewL; rw [decide_eq_false h]; rfl
theorem fewL_bad {L : List ByteArray} {k : Nat} (h : k < L.length) (hf : ¬ L[k].size ≤ 300) : fewL L = false := by
  unfold fewL
  rw [Bool.and_eq_false_iff]
  exact .inr (List.all_eq_false.2 ⟨L[k], List.getElem_mem h, by simp; omega⟩)
theorem fewL_all {L : List ByteArray} (h0 : L.length ≤ 60) (h : ∀ x ∈ L, x.size ≤ 300) : fewL L = true := by
  unfold fewL
  rw [decide_eq_true h0, Bool.true_and]
  exact List.all_eq_true.2 fun p hp => decide_eq_true (h p hp)
theorem fewL_out {L : List ByteArray} (h : fewL L = true) : L.length ≤ 60 ∧ ∀ x ∈ L, x.size ≤ 300 := by
  unfold fewL at h
  rw [Bool.and_eq_true] at h
  exact ⟨of_decide_eq_true h.1, fun p hp => of_decide_eq_true (List.all_eq_true.1 h.2 p hp)⟩
set_option maxRecDepth 100000 in
set_option maxHeartbeats 2000000 in
theorem few22_any (v : Value) (L : List ByteArray) (w : World) (hv : RdS w v L) (hz : ∀ x ∈ L, x.size ≤ maxLen) :
    Calls Tryz.prog 7 #[v] w fun e w' => e = .returned (.bool (fewL L)) ∧ Below w.heap.size w w' := by
  have HV := Kp.mk hv
  have HZ := Kp.mk hz
  obtain ⟨a, cap, rfl, hc1, hc2, -⟩ := hv
  clear hz
  go_enter Tryz.func7, Tryz.ntmps7
  by_cases h0 : L.length ≤ 60
  · have q9 : ¬ (60 : Int) < (L.length : Int) := by omega
    go_wp2_with fail
    go_loopw [10] (fun i wr => ∃ k : Nat, k ≤ L.length ∧ i = .int .i64 k ∧ (∀ x ∈ L.take k, x.size ≤ 300) ∧ Below w.heap.size w wr) (fun i _ => L.length - (intOf i).toNat)
    case atStart => exact ⟨0, by omega, rfl, by simp, Below.refl _ _⟩
    case round =>
      obtain ⟨k, hk, rfl, hh, hb⟩ := hrel
      have HB := Kp.mk hb
      have HH := Kp.mk hh
      clear hh hb
      by_cases hlt : k < L.length
      · obtain ⟨g, o, rfl, hgl, d0⟩ := rds_cells (HV.out.below HB.out) (by omega)
        have c1 := d0 k hlt
        have m1 := HZ.out L[k] (List.getElem_mem hlt)
        have q0 : (0 : Int) ≤ (k : Int) := by omega
        have q1 : (k : Int) < (L.length : Int) := by omega
        have HBad := Kp.mk (fewL_bad (L := L) hlt)
        have HTK := Kp.mk (List.take_succ_eq_append_getElem hlt)
        clear d0
        generalize L[k] = x at *
        by_cases hx : x.size ≤ 300
        · have q2 : ¬ (300 : Int) < (x.size : Int) := by omega
          go_wp2_with fail
          go_roundw
          case rel =>
            refine ⟨k + 1, by omega, by go_num, fun y hy => ?_, HB.out⟩
            rw [HTK.out] at hy
            rcases List.mem_append.1 hy with hy | hy
            · exact HH.out y hy
            · simp at hy; subst hy; exact hx
          case measure => simp [intOf]; omega
        · have q2 : (300 : Int) < (x.size : Int) := by omega
          have HT := Kp.mk (HBad.out hx)
          go_wp2_with fail
          go_ret
          exact ⟨by rw [HT.out] <;> rfl, HB.out⟩
      · have HT := Kp.mk (fewL_all h0 (by have := HH.out; rwa [List.take_of_length_le (by omega)] at this))
        go_wp2_with fail
        go_ret
        exact ⟨by rw [HT.out] <;> rfl, HB.out⟩
  · have q9 : (60 : Int) < (L.length : Int) := by omega
    have HT := Kp.mk (fewL_big h0)
    have HB := Kp.mk (Below.refl w.heap.size w)
    go_wp2_with fail
    go_ret
    exact ⟨by rw [HT.out] <;> rfl, HB.out⟩
theorem sameL_H {α : Type} [DecidableEq α] (l : List α) : sameL l l = true := decide_eq_true rfl
set_option maxRecDepth 100000 in
set_option maxHeartbeats 2000000 in
theorem same22H_any (m t : ByteArray) (mi st : Int) (r : ByteArray) (u1 u2 : Value) (L : List Fld) (w : World) (h1 : RdF w u1 L) (h2 : RdF w u2 L) (hl : L.length ≤ 1000000) :
    Calls Tryz.prog 11 #[.agg #[.string m, .string t, .int .i64 mi, .int .i64 st, .string r, u1], .agg #[.string m, .string t, .int .i64 mi, .int .i64 st, .string r, u2]] w fun e w' => e = .returned (.bool true) ∧ Below w.heap.size w w' := by
  have H1 := Kp.mk h1
  have H2 := Kp.mk h2
  obtain ⟨a1, c1, rfl, -, -, -⟩ := h1
  obtain ⟨a2, c2, rfl, -, -, -⟩ := h2
  have e1 : (w.alloc (.cells #[.string m, .string t, .int .i64 mi, .int .i64 st, .string r, .slice a1 L.length c1] 29)).heap.size = w.heap.size + 1 := World.size_alloc _ _
  have k1 := heap_alloc_new w (.cells #[.string m, .string t, .int .i64 mi, .int .i64 st, .string r, .slice a1 L.length c1] 29)
  have k2 := heap_alloc_new (w.alloc (.cells #[.string m, .string t, .int .i64 mi, .int .i64 st, .string r, .slice a1 L.length c1] 29)) (.cells #[.string m, .string t, .int .i64 mi, .int .i64 st, .string r, .slice a2 L.length c2] 29)
  rw [e1] at k2
  have K1 := Kp.mk (blk_alloc (o2 := .cells #[.string m, .string t, .int .i64 mi, .int .i64 st, .string r, .slice a2 L.length c2] 29) k1)
  have K2 := Kp.mk k2
  have HB := Kp.mk (((Below.refl w.heap.size w).alloc (Nat.le_refl _) (.cells #[.string m, .string t, .int .i64 mi, .int .i64 st, .string r, .slice a1 L.length c1] 29)).alloc (by rw [e1]; omega) (.cells #[.string m, .string t, .int .i64 mi, .int .i64 st, .string r, .slice a2 L.length c2] 29))
  clear k1 k2
  go_enter Tryz.func11, Tryz.ntmps11
  go_wp2_with fail
  refine (same15_any _ _ _ _ _ _ _ _ _ _ _ _).mono ?_
  rintro e w3 ⟨rfl, hb3⟩
  have c15 := blk_cell (i := 5) ((hb3.block _ (blk_lt K1.out)).trans K1.out) rfl
  have c25 := blk_cell (i := 5) ((hb3.block _ (blk_lt K2.out)).trans K2.out) rfl
  have HB3 := Kp.mk (HB.out.trans (hb3.mono HB.out.size))
  clear hb3
  go_wp2_with fail
  refine (rfsame_any _ _ L L _ (H1.out.below HB3.out) (H2.out.below HB3.out) hl hl).mono ?_
  rw [sameL_H]
  rintro e w4 ⟨rfl, hb4⟩
  go_wp2_with fail
  go_ret
  exact ⟨rfl, HB3.out.trans (hb4.mono HB3.out.size)⟩
theorem prH_len {kind lf fold : Int} {L : List ByteArray} (hl : L.length ≤ 60) : (prH kind lf fold L).1.f.length ≤ 1000000 := by
  unfold prH
  split
  · exact Nat.zero_le _
  · cases L with
    | nil => exact Nat.zero_le _
    | cons s L =>
      dsimp only
      have h0 : hd0.f.length ≤ 1000000 := Nat.zero_le _
      split
      · exact h0
      · split
        · exact h0
        · split
          · exact h0
          · show (afL fold L).length ≤ 1000000
            have h1 := ufL_len fold L
            have h2 : (afL fold L).length ≤ (ufL fold L).length := by
              unfold afL faL
              split
              · rw [List.length_map]; exact Nat.le_refl _
              · exact Nat.zero_le _
            simp at hl
            omega
theorem Tryz.cellsLm : Tryz.prog.cellsOf 23 = 5 := by kernel_rfl
theorem Tryz.cellsLi : Tryz.prog.cellsOf 3 = 1 := by kernel_rfl
set_option maxRecDepth 100000 in
theorem lim_arg22 (v : Value) (w : World) (h : Arg Tryz.prog w 23 v) : ∃ (l0 l1 l2 l3 l4 : Int), v = .agg #[.int .i64 l0, .int .i64 l1, .int .i64 l2, .int .i64 l3, .int .i64 l4] ∧ (-9223372036854775808 ≤ l1 ∧ l1 ≤ 9223372036854775807) := by
  obtain ⟨cs, rfl, hr⟩ := h.struct Tryz.underlying23
  obtain ⟨hl, hf⟩ := hr.struct Tryz.underlying23
  rw [Tryz.cellsLm] at hl
  have f0 : Rdb Tryz.prog w 3 ((cs.drop 0).take (Tryz.prog.cellsOf 3)) := hf 0 _ rfl
  have f1 : Rdb Tryz.prog w 3 ((cs.drop 1).take (Tryz.prog.cellsOf 3)) := hf 1 _ rfl
  have f2 : Rdb Tryz.prog w 3 ((cs.drop 2).take (Tryz.prog.cellsOf 3)) := hf 2 _ rfl
  have f3 : Rdb Tryz.prog w 3 ((cs.drop 3).take (Tryz.prog.cellsOf 3)) := hf 3 _ rfl
  have f4 : Rdb Tryz.prog w 3 ((cs.drop 4).take (Tryz.prog.cellsOf 3)) := hf 4 _ rfl
  rw [Tryz.cellsLi] at f0 f1 f2 f3 f4
  match cs, hl with
  | [y0, y1, y2, y3, y4], _ =>
    obtain ⟨l0, k0, z0⟩ := f0.int Tryz.underlying3
    obtain ⟨l1, k1, z1⟩ := f1.int Tryz.underlying3
    obtain ⟨l2, k2, z2⟩ := f2.int Tryz.underlying3
    obtain ⟨l3, k3, z3⟩ := f3.int Tryz.underlying3
    obtain ⟨l4, k4, z4⟩ := f4.int Tryz.underlying3
    simp at k0 k1 k2 k3 k4
    exact ⟨l0, l1, l2, l3, l4, by rw [k0, k1, k2, k3, k4], bounds_i64 z1⟩
set_option maxRecDepth 100000 in
set_option maxHeartbeats 4000000 in
theorem hparses_walk22 (kind x0 lf x2 x3 fold : Int) (v : Value) (L : List ByteArray) (w : World) (hv : RdS w v L) (hz : ∀ x ∈ L, x.size ≤ maxLen) (hlf : -9223372036854775808 ≤ lf ∧ lf ≤ 9223372036854775807) :
    Calls Tryz.prog 3 #[.int .i64 kind, .agg #[.int .i64 x0, .int .i64 lf, .int .i64 x2, .int .i64 x3, .int .i64 fold], v] w fun e w' => e = .returned (.bool true) ∧ Below w.heap.size w w' := by
  have HV := Kp.mk hv
  have HF := Kp.mk (fun w hv => few22_any v L w hv hz)
  have HOUT := Kp.mk (fun h => fewL_out (L := L) h)
  obtain ⟨av, cv, rfl, -, -, -⟩ := hv
  have HX := Kp.mk (heap_alloc_new w (.cells #[.int .i64 x0, .int .i64 lf, .int .i64 x2, .int .i64 x3, .int .i64 fold] 23))
  have HB := Kp.mk ((Below.refl _ w).alloc (Nat.le_refl _) (.cells #[.int .i64 x0, .int .i64 lf, .int .i64 x2, .int .i64 x3, .int .i64 fold] 23))
  have e1 : (w.alloc (.cells #[.int .i64 x0, .int .i64 lf, .int .i64 x2, .int .i64 x3, .int .i64 fold] 23)).heap.size = w.heap.size + 1 := World.size_alloc _ _
  generalize fewL L = B at *
  clear hz
  go_enter Tryz.func3, Tryz.ntmps3
  go_wp2_with fail
  refine (HF.out _ (HV.out.below HB.out)).mono ?_
  rintro e w1 ⟨rfl, hb1⟩
  have hx1 := (hb1.block _ (blk_lt HX.out)).trans HX.out
  have HX1 := Kp.mk hx1
  have HB1 := Kp.mk (HB.out.trans (hb1.mono (by rw [e1]; omega)))
  clear hb1 HX HB e1 HF
  cases B
  · go_wp2_with fail
    refine (lives22_any _).mono ?_
    rintro e w2 ⟨rfl, hb2⟩
    go_wp2_with fail
    go_ret
    exact ⟨rfl, HB1.out.trans (hb2.mono HB1.out.size)⟩
  · obtain ⟨hl, hz⟩ := HOUT.out rfl
    have HP := Kp.mk (fun W (h : RdS W (.slice av L.length cv) L) => hparse_any kind x0 lf x2 x3 fold _ L W h (by omega) (fun s hs => Nat.le_trans (hz s hs) (by omega)) hlf)
    have HRP := Kp.mk (fun W (h : RdS W (.slice av L.length cv) L) => rhparse_any kind x0 lf x2 x3 fold _ L W h (by omega) (fun s hs => Nat.le_trans (hz s hs) (by omega)) hlf)
    have HLN := Kp.mk (prH_len (kind := kind) (lf := lf) (fold := fold) hl)
    generalize prH kind lf fold L = R at *
    obtain ⟨H, er⟩ := R
    unfold RetHd hdV at HP HRP
    dsimp only at HP HRP HLN
    have c0 := blk_cell (i := 0) hx1 rfl
    have c1 := blk_cell (i := 1) hx1 rfl
    have c2 := blk_cell (i := 2) hx1 rfl
    have c3 := blk_cell (i := 3) hx1 rfl
    have c4 := blk_cell (i := 4) hx1 rfl
    clear hl hz hx1 HOUT
    go_wp2_with fail
    refine (HP.out _ (HV.out.below HB1.out)).mono ?_
    rintro e w2 ⟨u1, rfl, hu1, hb2⟩
    obtain ⟨a1, c1', rfl⟩ := own_lenH hu1
    have HU1 := Kp.mk (rdf_own (l := H.f) hu1)
    have hx2 := (hb2.block _ (blk_lt HX1.out)).trans HX1.out
    have HB2 := Kp.mk (HB1.out.trans (hb2.mono HB1.out.size))
    clear hu1 hb2 c0 c1 c2 c3 c4
    have N2 := Kp.mk (heap_alloc_new w2 (.cells #[.string H.m, .string H.t, .int .i64 H.mi, .int .i64 H.st, .string H.r, .slice a1 H.f.length c1'] 29))
    have HB3 := Kp.mk (HB2.out.alloc HB2.out.size (.cells #[.string H.m, .string H.t, .int .i64 H.mi, .int .i64 H.st, .string H.r, .slice a1 H.f.length c1'] 29))
    have hb3 : Below w2.heap.size w2 (w2.alloc (.cells #[.string H.m, .string H.t, .int .i64 H.mi, .int .i64 H.st, .string H.r, .slice a1 H.f.length c1'] 29)) := (Below.refl _ w2).alloc (Nat.le_refl _) _
    have HU2 := Kp.mk (HU1.out.below hb3)
    have hx3 := blk_alloc (o2 := .cells #[.string H.m, .string H.t, .int .i64 H.mi, .int .i64 H.st, .string H.r, .slice a1 H.f.length c1'] 29) hx2
    have d0 := blk_cell (i := 0) hx3 rfl
    have d1 := blk_cell (i := 1) hx3 rfl
    have d2 := blk_cell (i := 2) hx3 rfl
    have d3 := blk_cell (i := 3) hx3 rfl
    have d4 := blk_cell (i := 4) hx3 rfl
    clear hx2 hx3 hb3
    go_wp2_with fail
    refine (HRP.out _ (HV.out.below HB3.out)).mono ?_
    rintro e w4 ⟨u2, rfl, hu2, hb4⟩
    obtain ⟨a2, c2', rfl⟩ := own_lenH hu2
    have N4 := (hb4.block _ (blk_lt N2.out)).trans N2.out
    have HB4 := Kp.mk (HB3.out.trans (hb4.mono HB3.out.size))
    have HU1' := Kp.mk (HU2.out.below hb4)
    have HU2' := Kp.mk (rdf_own (l := H.f) hu2)
    have hb5 : Below w4.heap.size w4 (w4.alloc (.cells #[.string H.m, .string H.t, .int .i64 H.mi, .int .i64 H.st, .string H.r, .slice a2 H.f.length c2'] 29)) := (Below.refl _ w4).alloc (Nat.le_refl _) _
    have HB5 := Kp.mk (HB4.out.trans (hb5.mono HB4.out.size))
    have HV1 := Kp.mk (HU1'.out.below hb5)
    have HV2 := Kp.mk (HU2'.out.below hb5)
    have N5 := blk_alloc (o2 := .cells #[.string H.m, .string H.t, .int .i64 H.mi, .int .i64 H.st, .string H.r, .slice a2 H.f.length c2'] 29) N4
    have n0 := blk_cell (i := 0) N5 rfl
    have n1 := blk_cell (i := 1) N5 rfl
    have n2 := blk_cell (i := 2) N5 rfl
    have n3 := blk_cell (i := 3) N5 rfl
    have n4 := blk_cell (i := 4) N5 rfl
    have n5 := blk_cell (i := 5) N5 rfl
    clear hu2 hb4 d0 d1 d2 d3 d4 N4 N5 hb5
    go_wp2_with fail
    refine (same22H_any _ _ _ _ _ _ _ H.f _ HV1.out HV2.out HLN.out).mono ?_
    rintro e w6 ⟨rfl, hb6⟩
    have HB6 := Kp.mk (HB5.out.trans (hb6.mono HB5.out.size))
    clear hb6 n0 n1 n2 n3 n4 n5
    go_wp2_with fail
    refine (lives22_any _).mono ?_
    rintro e w7 ⟨rfl, hb7⟩
    go_wp2_with fail
    go_ret
    exact ⟨rfl, HB6.out.trans (hb7.mono HB6.out.size)⟩
theorem hparses_arg22 (v0 v1 v2 : Value) (w : World) (h0 : Arg Tryz.prog w 3 v0) (h1 : Arg Tryz.prog w 23 v1) (h2 : Arg Tryz.prog w 24 v2) :
    Calls Tryz.prog 3 #[v0, v1, v2] w fun e w' => e = .returned (.bool true) ∧ Below w.heap.size w w' := by
  obtain ⟨k, rfl, hk⟩ := h0.int Tryz.underlying3
  obtain ⟨l0, l1, l2, l3, l4, rfl, hl1⟩ := lim_arg22 v1 w h1
  obtain ⟨L, hv, hz⟩ := h2.strs Tryz.underlying24 Tryz.underlying9 Tryz.fcellsFs
  exact hparses_walk22 k l0 l1 l2 l3 l4 v2 L w hv hz hl1
end Go.Proofs.YtcbfhlnnfnpkdaaGreatDoor
