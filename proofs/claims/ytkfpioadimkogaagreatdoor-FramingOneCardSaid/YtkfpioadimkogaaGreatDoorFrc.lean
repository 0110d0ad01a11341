/- Framing (layer 23): the document's example; the laws FramingRequests and FramingResponses. -/
import Derived.Test.YtkfpioadimkogaaGreatDoorFrb
import Derived.Test.YtkfpioadimkogaaGreatDoorFew
namespace Go.Proofs.YtkfpioadimkogaaGreatDoor
open Go.RowKit
set_option linter.unusedVariables false
set_option linter.unusedSimpArgs false

structure Bx1 (h : Nat) (t1 : TypeId) (c1 : Array Value) (w W : World) : Prop where
  b1 : W.heap[h]? = some (.cells c1 t1 (0, 0))
  bel : Below h w W
theorem Bx1.new (w : World) (t1 : TypeId) (c1 : Array Value) : Bx1 w.heap.size t1 c1 w (w.alloc (.cells c1 t1)) :=
  ⟨heap_alloc_new w _, (Below.refl _ w).alloc (Nat.le_refl _) _⟩
theorem Bx1.call {h : Nat} {t1 : TypeId} {c1 : Array Value} {w W W' : World} (H : Bx1 h t1 c1 w W) (hb : Below W.heap.size W W') : Bx1 h t1 c1 w W' :=
  ⟨(hb.block h (blk_lt H.b1)).trans H.b1, H.bel.trans (hb.mono (by have := blk_lt H.b1; omega))⟩
theorem Bx1.alloc {h : Nat} {t1 : TypeId} {c1 : Array Value} {w W : World} (H : Bx1 h t1 c1 w W) (o : Obj) : Bx1 h t1 c1 w (W.alloc o) :=
  H.call ((Below.refl _ W).alloc (Nat.le_refl _) o)
def shB (M T R : ByteArray) (l : List Fld) : Bool := hFew l && (decide (M.size ≤ 100) && (decide (T.size ≤ 500) && decide (R.size ≤ 300)))
theorem shB_out {M T R : ByteArray} {l : List Fld} (h : shB M T R l = true) : hFew l = true ∧ M.size ≤ 100 ∧ T.size ≤ 500 ∧ R.size ≤ 300 := by
  unfold shB at h
  rw [Bool.and_eq_true, Bool.and_eq_true, Bool.and_eq_true] at h
  exact ⟨h.1, of_decide_eq_true h.2.1, of_decide_eq_true h.2.2.1, of_decide_eq_true h.2.2.2⟩
set_option maxRecDepth 100000 in
set_option maxHeartbeats 2000000 in
theorem short_any (M T R : ByteArray) (mi st : Int) (v : Value) (l : List Fld) (w : World) (hv : RdF w v l) (hz : ∀ p ∈ l, FldOk p) (hm : M.size ≤ maxLen) (ht : T.size ≤ maxLen) (hr : R.size ≤ maxLen) :
    Calls Tryz.prog 18 #[.agg #[.string M, .string T, .int .i64 mi, .int .i64 st, .string R, v]] w fun e w' => e = .returned (.bool (shB M T R l)) ∧ Below w.heap.size w w' := by
  unfold maxLen at hm ht hr
  have HV := Kp.mk hv
  have HF := Kp.mk (fun w hv => few10_any v l w hv hz)
  have HS := Kp.mk (show shB M T R l = (hFew l && (decide (M.size ≤ 100) && (decide (T.size ≤ 500) && decide (R.size ≤ 300)))) from rfl)
  obtain ⟨ad, cap, rfl, -, -, -⟩ := hv
  generalize shB M T R l = S at *
  generalize hFew l = F at *
  have HB := Kp.mk (Bx1.new w 33 (hdC M T mi st R (.slice ad l.length cap)))
  unfold hdC at HB
  clear hz
  have d0 := blk_cell (i := 0) HB.out.b1 rfl
  have d1 := blk_cell (i := 1) HB.out.b1 rfl
  have d2 := blk_cell (i := 2) HB.out.b1 rfl
  have d3 := blk_cell (i := 3) HB.out.b1 rfl
  have d4 := blk_cell (i := 4) HB.out.b1 rfl
  have d5 := blk_cell (i := 5) HB.out.b1 rfl
  go_enter Tryz.func18, Tryz.ntmps18
  go_wp2_with fail
  refine (HF.out _ (HV.out.below HB.out.bel)).mono ?_
  rintro e w9 ⟨rfl, hb9⟩
  replace HB := Kp.mk (HB.out.call hb9)
  clear hb9 d0 d1 d2 d3 d4 d5
  have d0 := blk_cell (i := 0) HB.out.b1 rfl
  have d1 := blk_cell (i := 1) HB.out.b1 rfl
  have d2 := blk_cell (i := 2) HB.out.b1 rfl
  have d3 := blk_cell (i := 3) HB.out.b1 rfl
  have d4 := blk_cell (i := 4) HB.out.b1 rfl
  have d5 := blk_cell (i := 5) HB.out.b1 rfl
  cases F
  · go_wp2_with fail
    go_ret
    exact ⟨by rw [HS.out] <;> rfl, HB.out.bel⟩
  · by_cases h1 : M.size ≤ 100
    · have q1 : (M.size : Int) ≤ 100 := by omega
      by_cases h2 : T.size ≤ 500
      · have q2 : (T.size : Int) ≤ 500 := by omega
        have hi : decide ((R.size : Int) ≤ 300) = decide (R.size ≤ 300) := by
          by_cases q : R.size ≤ 300
          · rw [decide_eq_true q, decide_eq_true (by omega)]
          · rw [decide_eq_false q, decide_eq_false (by omega)]
        have HI := Kp.mk hi
        replace HS := Kp.mk (HS.out.trans (show _ = decide ((R.size : Int) ≤ 300) by rw [decide_eq_true h1, decide_eq_true h2, hi]; rfl))
        clear hi h1 h2
        go_wp2_with fail
        go_ret
        exact ⟨by rw [HS.out] <;> first | rfl | simp, HB.out.bel⟩
      · have q2 : ¬ (T.size : Int) ≤ 500 := by omega
        replace HS := Kp.mk (HS.out.trans (show _ = false by rw [decide_eq_true h1, decide_eq_false h2]; rfl))
        clear h1 h2
        go_wp2_with fail
        go_ret
        exact ⟨by rw [HS.out] <;> rfl, HB.out.bel⟩
    · have q1 : ¬ (M.size : Int) ≤ 100 := by omega
      replace HS := Kp.mk (HS.out.trans (show _ = false by rw [decide_eq_false h1]; rfl))
      clear h1
      go_wp2_with fail
      go_ret
      exact ⟨by rw [HS.out] <;> rfl, HB.out.bel⟩
/-! ### The example -/
theorem few_nil : FewF [] := ⟨by simp, by simp⟩
def vGET : ByteArray := ⟨#[71, 69, 84]⟩
def vHEAD : ByteArray := ⟨#[72, 69, 65, 68]⟩
theorem exF1 : rsR [] 1 200 vGET = (3, 0, 0) := by decide +kernel
theorem exF2 : rsR [] 1 200 vHEAD = (0, 0, 0) := by decide +kernel
theorem exF3 : rqR [] 1 = (0, 0, 13) := by decide +kernel
theorem rdF_none (w : World) : RdF w (.slice none 0 0) [] := RdL.nil (by unfold maxLen; omega)
/-- A frame's block. -/
structure FrB (g : Nat) (k n : Int) (W : World) : Prop where
  b : W.heap[g]? = some (.cells #[.int .i64 k, .int .i64 n] 37 (0, 0))
theorem FrB.new (w : World) (k n : Int) : FrB w.heap.size k n (w.alloc (.cells #[.int .i64 k, .int .i64 n] 37)) := ⟨heap_alloc_new w _⟩
theorem FrB.call {g : Nat} {k n : Int} {W W' : World} (H : FrB g k n W) (hb : Below W.heap.size W W') : FrB g k n W' := ⟨(hb.block g (blk_lt H.b)).trans H.b⟩
theorem FrB.alloc {g : Nat} {k n : Int} {W : World} (H : FrB g k n W) (o : Obj) : FrB g k n (W.alloc o) := ⟨blk_alloc H.b⟩
set_option maxRecDepth 100000 in
set_option maxHeartbeats 2000000 in
theorem lives23_any (w : World) : Calls Tryz.prog 24 #[] w fun e w' => e = .returned (.bool true) ∧ Below w.heap.size w w' := by
  have H1 := Kp.mk (fun w => fres_any ⟨#[]⟩ ⟨#[]⟩ ⟨#[]⟩ vGET 1 200 _ [] w (rdF_none w) few_nil)
  have H2 := Kp.mk (fun w => fres_any ⟨#[]⟩ ⟨#[]⟩ ⟨#[]⟩ vHEAD 1 200 _ [] w (rdF_none w) few_nil)
  have H3 := Kp.mk (fun w => freq_any vGET ⟨#[47]⟩ ⟨#[]⟩ 1 0 _ [] w (rdF_none w) few_nil)
  rw [exF1] at H1
  rw [exF2] at H2
  rw [exF3] at H3
  go_enter Tryz.func24, Tryz.ntmps24
  go_wp2_with fail
  refine (H1.out _).mono ?_
  rintro e w1 ⟨rfl, hb⟩
  have B1 := Kp.mk (hb.alloc hb.size (.cells #[.int .i64 3, .int .i64 0] 37))
  have F1 := Kp.mk (FrB.new w1 3 0)
  clear hb
  go_wp2_with fail
  refine (H2.out _).mono ?_
  rintro e w2 ⟨rfl, hb⟩
  have B2 := Kp.mk ((B1.out.trans (hb.mono B1.out.size)).alloc (by have := B1.out.size; have := hb.size; omega) (.cells #[.int .i64 0, .int .i64 0] 37))
  have F2 := Kp.mk (FrB.new w2 0 0)
  replace F1 := Kp.mk ((F1.out.call hb).alloc (.cells #[.int .i64 0, .int .i64 0] 37))
  clear hb
  go_wp2_with fail
  refine (H3.out _).mono ?_
  rintro e w3 ⟨rfl, hb⟩
  have B3 := Kp.mk ((B2.out.trans (hb.mono B2.out.size)).alloc (by have := B2.out.size; have := hb.size; omega) (.cells #[.int .i64 0, .int .i64 0] 37))
  replace F1 := Kp.mk ((F1.out.call hb).alloc (.cells #[.int .i64 0, .int .i64 0] 37))
  replace F2 := Kp.mk ((F2.out.call hb).alloc (.cells #[.int .i64 0, .int .i64 0] 37))
  clear hb
  have p0 := blk_cell (i := 0) F1.out.b rfl
  have p1 := blk_cell (i := 1) F1.out.b rfl
  have p2 := blk_cell (i := 0) F2.out.b rfl
  have p3 := blk_cell (i := 1) F2.out.b rfl
  go_wp2_with fail
  go_ret
  exact ⟨rfl, B3.out⟩
/-! ### The laws -/
set_option maxRecDepth 100000 in
set_option maxHeartbeats 4000000 in
theorem freq_walk (M T R : ByteArray) (mi st : Int) (v : Value) (l : List Fld) (w : World) (hv : RdF w v l) (hz : ∀ p ∈ l, FldOk p) (hm : M.size ≤ maxLen) (ht : T.size ≤ maxLen) (hr : R.size ≤ maxLen) :
    Calls Tryz.prog 5 #[.agg #[.string M, .string T, .int .i64 mi, .int .i64 st, .string R, v]] w fun e w' => e = .returned (.bool true) ∧ Below w.heap.size w w' := by
  unfold maxLen at hm ht hr
  have HV := Kp.mk hv
  have HSH := Kp.mk (fun w hv => short_any M T R mi st v l w hv hz hm ht hr)
  obtain ⟨ad, cap, rfl, -, -, -⟩ := hv
  clear hz
  have HB := Kp.mk (Bx1.new w 33 (hdC M T mi st R (.slice ad l.length cap)))
  unfold hdC at HB
  have d0 := blk_cell (i := 0) HB.out.b1 rfl
  have d1 := blk_cell (i := 1) HB.out.b1 rfl
  have d2 := blk_cell (i := 2) HB.out.b1 rfl
  have d3 := blk_cell (i := 3) HB.out.b1 rfl
  have d4 := blk_cell (i := 4) HB.out.b1 rfl
  have d5 := blk_cell (i := 5) HB.out.b1 rfl
  go_enter Tryz.func5, Tryz.ntmps5
  cases hsh : shB M T R l
  · rw [hsh] at HSH
    clear hsh
    go_wp2_with fail
    refine (HSH.out _ (HV.out.below HB.out.bel)).mono ?_
    rintro e w9 ⟨rfl, hb9⟩
    replace HB := Kp.mk (HB.out.call hb9)
    clear hb9 d0 d1 d2 d3 d4 d5
    go_wp2_with fail
    refine (lives23_any _).mono ?_
    rintro e w90 ⟨rfl, hb90⟩
    have HB90 := Kp.mk (HB.out.bel.trans (hb90.mono HB.out.bel.size))
    clear hb90
    go_wp2_with fail
    go_ret
    exact ⟨rfl, HB90.out⟩
  · rw [hsh] at HSH
    have FW := fewF_of (shB_out hsh).1
    clear hsh
    have HA := Kp.mk (fun w hv => freq_any M T R mi st (.slice ad l.length cap) l w hv FW)
    have HC := Kp.mk (fun w hv => rfreq_any M T R mi st (.slice ad l.length cap) l w hv FW)
    generalize rqR l mi = Z at *
    obtain ⟨zk, zn, ze⟩ := Z
    dsimp only at HA HC
    clear FW
    go_wp2_with fail
    refine (HSH.out _ (HV.out.below HB.out.bel)).mono ?_
    rintro e w9 ⟨rfl, hb9⟩
    replace HB := Kp.mk (HB.out.call hb9)
    clear hb9 d0 d1 d2 d3 d4 d5
    have d0 := blk_cell (i := 0) HB.out.b1 rfl
    have d1 := blk_cell (i := 1) HB.out.b1 rfl
    have d2 := blk_cell (i := 2) HB.out.b1 rfl
    have d3 := blk_cell (i := 3) HB.out.b1 rfl
    have d4 := blk_cell (i := 4) HB.out.b1 rfl
    have d5 := blk_cell (i := 5) HB.out.b1 rfl
    go_wp2_with fail
    refine (HA.out _ (HV.out.below HB.out.bel)).mono ?_
    rintro e w9 ⟨rfl, hb9⟩
    have F1 := Kp.mk (FrB.new w9 zk zn)
    replace HB := Kp.mk ((HB.out.call hb9).alloc (.cells #[.int .i64 zk, .int .i64 zn] 37))
    clear hb9 d0 d1 d2 d3 d4 d5
    have d0 := blk_cell (i := 0) HB.out.b1 rfl
    have d1 := blk_cell (i := 1) HB.out.b1 rfl
    have d2 := blk_cell (i := 2) HB.out.b1 rfl
    have d3 := blk_cell (i := 3) HB.out.b1 rfl
    have d4 := blk_cell (i := 4) HB.out.b1 rfl
    have d5 := blk_cell (i := 5) HB.out.b1 rfl
    go_wp2_with fail
    refine (HC.out _ (HV.out.below HB.out.bel)).mono ?_
    rintro e w9 ⟨rfl, hb9⟩
    have F2 := Kp.mk (FrB.new w9 zk zn)
    replace F1 := Kp.mk ((F1.out.call hb9).alloc (.cells #[.int .i64 zk, .int .i64 zn] 37))
    replace HB := Kp.mk ((HB.out.call hb9).alloc (.cells #[.int .i64 zk, .int .i64 zn] 37))
    clear hb9 d0 d1 d2 d3 d4 d5
    have d0 := blk_cell (i := 0) HB.out.b1 rfl
    have d1 := blk_cell (i := 1) HB.out.b1 rfl
    have d2 := blk_cell (i := 2) HB.out.b1 rfl
    have d3 := blk_cell (i := 3) HB.out.b1 rfl
    have d4 := blk_cell (i := 4) HB.out.b1 rfl
    have d5 := blk_cell (i := 5) HB.out.b1 rfl
    have p0 := blk_cell (i := 0) F1.out.b rfl
    have p1 := blk_cell (i := 1) F1.out.b rfl
    have p2 := blk_cell (i := 0) F2.out.b rfl
    have p3 := blk_cell (i := 1) F2.out.b rfl
    go_wp2_with fail
    refine (lives23_any _).mono ?_
    rintro e w90 ⟨rfl, hb90⟩
    have HB90 := Kp.mk (HB.out.bel.trans (hb90.mono HB.out.bel.size))
    clear hb90
    go_wp2_with fail
    go_ret
    exact ⟨rfl, HB90.out⟩
theorem fldOk_list (v : Value) (w : World) (cs : List Value) (hc : cs = [v]) (h : Rdb Tryz.prog w 22 cs) : ∃ l, RdF w v l ∧ ∀ p ∈ l, FldOk p := by
  obtain ⟨v2, l, h1, h2, h3⟩ := h.list (f := fldC) (Q := FldOk) Tryz.underlying22 Tryz.fcellsFld (by omega) fun E hE => fld_of Tryz.underlying49 Tryz.underlying9 Tryz.fcellsFld Tryz.fcellsFs ⟨_, rfl, rfl, rfl⟩ ⟨_, rfl, rfl, rfl⟩ hE
  rw [hc] at h1
  cases h1
  exact ⟨l, h2, h3⟩
theorem Tryz.cellsHd : Tryz.prog.cellsOf 33 = 6 := by kernel_rfl
theorem Tryz.cellsHi : Tryz.prog.cellsOf 3 = 1 := by kernel_rfl
theorem Tryz.cellsHl : Tryz.prog.cellsOf 22 = 1 := by kernel_rfl
set_option maxRecDepth 100000 in
theorem head_arg23 (v : Value) (w : World) (h : Arg Tryz.prog w 33 v) : ∃ (m t : ByteArray) (mi st : Int) (r : ByteArray) (u : Value) (l : List Fld), v = .agg #[.string m, .string t, .int .i64 mi, .int .i64 st, .string r, u] ∧ RdF w u l ∧ (∀ p ∈ l, FldOk p) ∧ m.size ≤ maxLen ∧ t.size ≤ maxLen ∧ r.size ≤ maxLen ∧ (-9223372036854775808 ≤ mi ∧ mi ≤ 9223372036854775807) ∧ -9223372036854775808 ≤ st ∧ st ≤ 9223372036854775807 := by
  obtain ⟨cs, rfl, hr⟩ := h.struct Tryz.underlying33
  obtain ⟨hl, hf⟩ := hr.struct Tryz.underlying33
  rw [Tryz.cellsHd] at hl
  have f0 : Rdb Tryz.prog w 9 ((cs.drop 0).take (Tryz.prog.cellsOf 9)) := hf 0 _ rfl
  have f1 : Rdb Tryz.prog w 9 ((cs.drop 1).take (Tryz.prog.cellsOf 9)) := hf 1 _ rfl
  have f2 : Rdb Tryz.prog w 3 ((cs.drop 2).take (Tryz.prog.cellsOf 3)) := hf 2 _ rfl
  have f3 : Rdb Tryz.prog w 3 ((cs.drop 3).take (Tryz.prog.cellsOf 3)) := hf 3 _ rfl
  have f4 : Rdb Tryz.prog w 9 ((cs.drop 4).take (Tryz.prog.cellsOf 9)) := hf 4 _ rfl
  have f5 : Rdb Tryz.prog w 22 ((cs.drop 5).take (Tryz.prog.cellsOf 22)) := hf 5 _ rfl
  rw [Tryz.fcellsFs] at f0 f1 f4
  rw [Tryz.cellsHi] at f2 f3
  rw [Tryz.cellsHl] at f5
  match cs, hl with
  | [x0, x1, x2, x3, x4, x5], _ =>
    obtain ⟨m, k0, z0⟩ := f0.str Tryz.underlying9
    obtain ⟨t, k1, z1⟩ := f1.str Tryz.underlying9
    obtain ⟨mi, k2, z2⟩ := f2.int Tryz.underlying3
    obtain ⟨st, k3, z3⟩ := f3.int Tryz.underlying3
    obtain ⟨r, k4, z4⟩ := f4.str Tryz.underlying9
    obtain ⟨l, k5, z5⟩ := fldOk_list x5 w _ rfl f5
    obtain ⟨b0, b1⟩ := bounds_i64 z3
    obtain ⟨b2, b3⟩ := bounds_i64 z2
    simp at k0 k1 k2 k3 k4
    exact ⟨m, t, mi, st, r, x5, l, by rw [k0, k1, k2, k3, k4], k5, z5, z0, z1, z4, ⟨b2, b3⟩, b0, b1⟩
theorem freqs_arg (v0 : Value) (w : World) (h0 : Arg Tryz.prog w 33 v0) :
    Calls Tryz.prog 5 #[v0] w fun e w' => e = .returned (.bool true) ∧ Below w.heap.size w w' := by
  obtain ⟨m, t, mi, st, r, u, l, rfl, hv, hz, hm, ht, hr, -, -, -⟩ := head_arg23 v0 w h0
  exact freq_walk m t r mi st u l w hv hz hm ht hr
set_option maxRecDepth 100000 in
set_option maxHeartbeats 4000000 in
theorem fres_walk (M T R m : ByteArray) (mi st : Int) (v : Value) (l : List Fld) (w : World) (hv : RdF w v l) (hz : ∀ p ∈ l, FldOk p) (hm : M.size ≤ maxLen) (ht : T.size ≤ maxLen) (hr : R.size ≤ maxLen) (hmm : m.size ≤ maxLen) :
    Calls Tryz.prog 6 #[.agg #[.string M, .string T, .int .i64 mi, .int .i64 st, .string R, v], .string m] w fun e w' => e = .returned (.bool true) ∧ Below w.heap.size w w' := by
  unfold maxLen at hmm
  unfold maxLen at hm ht hr
  have HV := Kp.mk hv
  have HSH := Kp.mk (fun w hv => short_any M T R mi st v l w hv hz hm ht hr)
  obtain ⟨ad, cap, rfl, -, -, -⟩ := hv
  clear hz
  have HB := Kp.mk (Bx1.new w 33 (hdC M T mi st R (.slice ad l.length cap)))
  unfold hdC at HB
  have d0 := blk_cell (i := 0) HB.out.b1 rfl
  have d1 := blk_cell (i := 1) HB.out.b1 rfl
  have d2 := blk_cell (i := 2) HB.out.b1 rfl
  have d3 := blk_cell (i := 3) HB.out.b1 rfl
  have d4 := blk_cell (i := 4) HB.out.b1 rfl
  have d5 := blk_cell (i := 5) HB.out.b1 rfl
  go_enter Tryz.func6, Tryz.ntmps6
  cases hsh : shB M T R l
  · rw [hsh] at HSH
    clear hsh
    go_wp2_with fail
    refine (HSH.out _ (HV.out.below HB.out.bel)).mono ?_
    rintro e w9 ⟨rfl, hb9⟩
    replace HB := Kp.mk (HB.out.call hb9)
    clear hb9 d0 d1 d2 d3 d4 d5
    go_wp2_with fail
    refine (lives23_any _).mono ?_
    rintro e w90 ⟨rfl, hb90⟩
    have HB90 := Kp.mk (HB.out.bel.trans (hb90.mono HB.out.bel.size))
    clear hb90
    go_wp2_with fail
    go_ret
    exact ⟨rfl, HB90.out⟩
  · rw [hsh] at HSH
    have FW := fewF_of (shB_out hsh).1
    clear hsh
    have HA := Kp.mk (fun w hv => fres_any M T R m mi st (.slice ad l.length cap) l w hv FW)
    have HC := Kp.mk (fun w hv => rfres_any M T R m mi st (.slice ad l.length cap) l w hv FW)
    have HD := Kp.mk (fun w => bodl_any st m w)
    have HE := Kp.mk (fun w => rbodl_any st m w)
    generalize rsR l mi st m = Z at *
    generalize bdB st m = bb at *
    obtain ⟨zk, zn, ze⟩ := Z
    dsimp only at HA HC
    clear FW
    go_wp2_with fail
    refine (HSH.out _ (HV.out.below HB.out.bel)).mono ?_
    rintro e w9 ⟨rfl, hb9⟩
    replace HB := Kp.mk (HB.out.call hb9)
    clear hb9 d0 d1 d2 d3 d4 d5
    have d0 := blk_cell (i := 0) HB.out.b1 rfl
    have d1 := blk_cell (i := 1) HB.out.b1 rfl
    have d2 := blk_cell (i := 2) HB.out.b1 rfl
    have d3 := blk_cell (i := 3) HB.out.b1 rfl
    have d4 := blk_cell (i := 4) HB.out.b1 rfl
    have d5 := blk_cell (i := 5) HB.out.b1 rfl
    by_cases h1 : m.size ≤ 100
    · have q1 : ¬ (100 : Int) < (m.size : Int) := by omega
      go_wp2_with fail
      refine (HA.out _ (HV.out.below HB.out.bel)).mono ?_
      rintro e w9 ⟨rfl, hb9⟩
      have F1 := Kp.mk (FrB.new w9 zk zn)
      replace HB := Kp.mk ((HB.out.call hb9).alloc (.cells #[.int .i64 zk, .int .i64 zn] 37))
      clear hb9 d0 d1 d2 d3 d4 d5
      have d0 := blk_cell (i := 0) HB.out.b1 rfl
      have d1 := blk_cell (i := 1) HB.out.b1 rfl
      have d2 := blk_cell (i := 2) HB.out.b1 rfl
      have d3 := blk_cell (i := 3) HB.out.b1 rfl
      have d4 := blk_cell (i := 4) HB.out.b1 rfl
      have d5 := blk_cell (i := 5) HB.out.b1 rfl
      go_wp2_with fail
      refine (HC.out _ (HV.out.below HB.out.bel)).mono ?_
      rintro e w9 ⟨rfl, hb9⟩
      have F2 := Kp.mk (FrB.new w9 zk zn)
      replace F1 := Kp.mk ((F1.out.call hb9).alloc (.cells #[.int .i64 zk, .int .i64 zn] 37))
      replace HB := Kp.mk ((HB.out.call hb9).alloc (.cells #[.int .i64 zk, .int .i64 zn] 37))
      clear hb9 d0 d1 d2 d3 d4 d5
      have d0 := blk_cell (i := 0) HB.out.b1 rfl
      have d1 := blk_cell (i := 1) HB.out.b1 rfl
      have d2 := blk_cell (i := 2) HB.out.b1 rfl
      have d3 := blk_cell (i := 3) HB.out.b1 rfl
      have d4 := blk_cell (i := 4) HB.out.b1 rfl
      have d5 := blk_cell (i := 5) HB.out.b1 rfl
      have p0 := blk_cell (i := 0) F1.out.b rfl
      have p1 := blk_cell (i := 1) F1.out.b rfl
      have p2 := blk_cell (i := 0) F2.out.b rfl
      have p3 := blk_cell (i := 1) F2.out.b rfl
      go_upto_region 5 with fail
      have hlt1 := blk_lt F1.out.b
      have hlt2 := blk_lt F2.out.b
      have hlt3 := blk_lt HB.out.b1
      have BB := Kp.mk HB.out.bel
      have P0 := Kp.mk (fun {W : World} (hb : Below (w9.alloc (.cells #[.int .i64 zk, .int .i64 zn] 37)).heap.size (w9.alloc (.cells #[.int .i64 zk, .int .i64 zn] 37)) W) => (blk_cell (i := 0) (F1.out.call hb).b rfl))
      have P1 := Kp.mk (fun {W : World} (hb : Below (w9.alloc (.cells #[.int .i64 zk, .int .i64 zn] 37)).heap.size (w9.alloc (.cells #[.int .i64 zk, .int .i64 zn] 37)) W) => (blk_cell (i := 1) (F1.out.call hb).b rfl))
      have P2 := Kp.mk (fun {W : World} (hb : Below (w9.alloc (.cells #[.int .i64 zk, .int .i64 zn] 37)).heap.size (w9.alloc (.cells #[.int .i64 zk, .int .i64 zn] 37)) W) => (blk_cell (i := 0) (F2.out.call hb).b rfl))
      have P3 := Kp.mk (fun {W : World} (hb : Below (w9.alloc (.cells #[.int .i64 zk, .int .i64 zn] 37)).heap.size (w9.alloc (.cells #[.int .i64 zk, .int .i64 zn] 37)) W) => (blk_cell (i := 1) (F2.out.call hb).b rfl))
      have P4 := Kp.mk (fun {W : World} (hb : Below (w9.alloc (.cells #[.int .i64 zk, .int .i64 zn] 37)).heap.size (w9.alloc (.cells #[.int .i64 zk, .int .i64 zn] 37)) W) => (blk_cell (i := 3) (HB.out.call hb).b1 rfl))
      clear d0 d1 d2 d3 d4 d5 p0 p1 p2 p3
      generalize w9.alloc (.cells #[.int .i64 zk, .int .i64 zn] 37) = W at *
      have r0 := fun (p : InS (Below W.heap.size W)) => P0.out p.ok
      have r1 := fun (p : InS (Below W.heap.size W)) => P1.out p.ok
      have r2 := fun (p : InS (Below W.heap.size W)) => P2.out p.ok
      have r3 := fun (p : InS (Below W.heap.size W)) => P3.out p.ok
      have r4 := fun (p : InS (Below W.heap.size W)) => P4.out p.ok
      haveI hne : Nonempty (InS (Below W.heap.size W)) := ⟨⟨_, Below.refl _ _⟩⟩
      refine region_in _ (by kernel_rfl) (by kernel_rfl) (gdrewN W 1) ?_
      repeat (go_big_quiet_step ((first | (go_at_call 29; exact call_in fun w h => (HD.out w).mono fun _ _ h2 => ⟨h2.1, by rw [← h2.2]; exact h⟩) | (go_at_call 30; exact call_in fun w h => (HE.out w).mono fun _ _ h2 => ⟨h2.1, by rw [← h2.2]; exact h⟩) | (go_at_call 24; exact call_in fun w h => (lives23_any w).mono fun _ _ h2 => ⟨h2.1, h.trans (h2.2.mono h.size)⟩))))
      refine wpQuiet_nil ?_
      intro _ hw'
      obtain ⟨wq, rfl⟩ := hw'
      go_wp2_with fail
      go_ret
      exact ⟨rfl, BB.out.trans (wq.ok.mono BB.out.size)⟩
    · have q1 : (100 : Int) < (m.size : Int) := by omega
      go_wp2_with fail
      refine (lives23_any _).mono ?_
      rintro e w90 ⟨rfl, hb90⟩
      have HB90 := Kp.mk (HB.out.bel.trans (hb90.mono HB.out.bel.size))
      clear hb90
      go_wp2_with fail
      go_ret
      exact ⟨rfl, HB90.out⟩
theorem fress_arg (v0 v1 : Value) (w : World) (h0 : Arg Tryz.prog w 33 v0) (h1 : Arg Tryz.prog w 9 v1) :
    Calls Tryz.prog 6 #[v0, v1] w fun e w' => e = .returned (.bool true) ∧ Below w.heap.size w w' := by
  obtain ⟨m, t, mi, st, r, u, l, rfl, hv, hz, hm, ht, hr, -, -, -⟩ := head_arg23 v0 w h0
  obtain ⟨s, rfl, hs⟩ := h1.str Tryz.underlying9
  exact fres_walk m t r s mi st u l w hv hz hm ht hr hs
end Go.Proofs.YtkfpioadimkogaaGreatDoor
