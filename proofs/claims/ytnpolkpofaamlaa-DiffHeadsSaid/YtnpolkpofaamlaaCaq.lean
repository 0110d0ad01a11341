/- How heads differ (layer 51): a short head; a head as an argument (out of Frc). -/
import Derived.Test.YtnpolkpofaamlaaCao
import Derived.Test.YtnpolkpofaamlaaCap
import Derived.Test.YtnpolkpofaamlaaFew
namespace Go.Proofs.Ytnpolkpofaamlaa
open Go.RowKit
set_option linter.unusedVariables false
set_option linter.unusedSimpArgs false

def hdC (M T : ByteArray) (mi st : Int) (R : ByteArray) (v : Value) : Array Value := #[.string M, .string T, .int .i64 mi, .int .i64 st, .string R, v]
structure Bx1 (h : Nat) (t1 : TypeId) (c1 : Array Value) (w W : World) : Prop where
  b1 : W.heap[h]? = some (.cells c1 t1 (0, 0))
  bel : Below h w W
theorem Bx1.new (w : World) (t1 : TypeId) (c1 : Array Value) : Bx1 w.heap.size t1 c1 w (w.alloc (.cells c1 t1)) :=
  ⟨heap_alloc_new w _, (Below.refl _ w).alloc (Nat.le_refl _) _⟩
theorem Bx1.call {h : Nat} {t1 : TypeId} {c1 : Array Value} {w W W' : World} (H : Bx1 h t1 c1 w W) (hb : Below W.heap.size W W') : Bx1 h t1 c1 w W' :=
  ⟨(hb.block h (blk_lt H.b1)).trans H.b1, H.bel.trans (hb.mono (by have := blk_lt H.b1; omega))⟩
theorem Bx1.alloc {h : Nat} {t1 : TypeId} {c1 : Array Value} {w W : World} (H : Bx1 h t1 c1 w W) (o : Obj) : Bx1 h t1 c1 w (W.alloc o) :=
  H.call ((Below.refl _ W).alloc (Nat.le_refl _) o)
def shB (M T R : ByteArray) (l : List Fld) : Bool := hFew l && (decide (M.size ≤ 100) && (decide (T.size ≤ 500) && decide (R.size ≤ 300)))
theorem shB_out {M T R : ByteArray} {l : List Fld} (h : shB M T R l = true) : hFew l = true ∧ M.size ≤ 100 ∧ T.size ≤ 500 ∧ R.size ≤ 300 := by
  unfold shB at h
  rw [Bool.and_eq_true, Bool.and_eq_true, Bool.and_eq_true] at h
  exact ⟨h.1, of_decide_eq_true h.2.1, of_decide_eq_true h.2.2.1, of_decide_eq_true h.2.2.2⟩
set_option maxRecDepth 100000 in
set_option maxHeartbeats 2000000 in
theorem short_any (M T R : ByteArray) (mi st : Int) (v : Value) (l : List Fld) (w : World) (hv : RdF w v l) (hz : ∀ p ∈ l, FldOk p) (hm : M.size ≤ maxLen) (ht : T.size ≤ maxLen) (hr : R.size ≤ maxLen) :
    Calls Try.prog 60 #[.agg #[.string M, .string T, .int .i64 mi, .int .i64 st, .string R, v]] w fun e w' => e = .returned (.bool (shB M T R l)) ∧ Below w.heap.size w w' := by
  unfold maxLen at hm ht hr
  have HV := Kp.mk hv
  have HF := Kp.mk (fun w hv => few10_any v l w hv hz)
  have HS := Kp.mk (show shB M T R l = (hFew l && (decide (M.size ≤ 100) && (decide (T.size ≤ 500) && decide (R.size ≤ 300)))) from rfl)
  obtain ⟨ad, cap, rfl, -, -, -⟩ := hv
  generalize shB M T R l = S at *
  generalize hFew l = F at *
  have HB := Kp.mk (Bx1.new w 50 (hdC M T mi st R (.slice ad l.length cap)))
  unfold hdC at HB
  clear hz
  have d0 := blk_cell (i := 0) HB.out.b1 rfl
  have d1 := blk_cell (i := 1) HB.out.b1 rfl
  have d2 := blk_cell (i := 2) HB.out.b1 rfl
  have d3 := blk_cell (i := 3) HB.out.b1 rfl
  have d4 := blk_cell (i := 4) HB.out.b1 rfl
  have d5 := blk_cell (i := 5) HB.out.b1 rfl
  go_enter Try.func60, Try.ntmps60
  go_wp2_with fail
  refine (HF.out _ (HV.out.below HB.out.bel)).mono ?_
  rintro e w9 ⟨rfl, hb9⟩
  replace HB := Kp.mk (HB.out.call hb9)
  clear hb9 d0 d1 d2 d3 d4 d5
  have d0 := blk_cell (i := 0) HB.out.b1 rfl
  have d1 := blk_cell (i := 1) HB.out.b1 rfl
  have d2 := blk_cell (i := 2) HB.out.b1 rfl
  have d3 := blk_cell (i := 3) HB.out.b1 rfl
  have d4 := blk_cell (i := 4) HB.out.b1 rfl
  have d5 := blk_cell (i := 5) HB.out.b1 rfl
  cases F
  · go_wp2_with fail
    go_ret
    exact ⟨by rw [HS.out] <;> rfl, HB.out.bel⟩
  · by_cases h1 : M.size ≤ 100
    · have q1 : (M.size : Int) ≤ 100 := by omega
      by_cases h2 : T.size ≤ 500
      · have q2 : (T.size : Int) ≤ 500 := by omega
        have hi : decide ((R.size : Int) ≤ 300) = decide (R.size ≤ 300) := by
          by_cases q : R.size ≤ 300
          · rw [decide_eq_true q, decide_eq_true (by omega)]
          · rw [decide_eq_false q, decide_eq_false (by omega)]
        have HI := Kp.mk hi
        replace HS := Kp.mk (HS.out.trans (show _ = decide ((R.size : Int) ≤ 300) by rw [decide_eq_true h1, decide_eq_true h2, hi]; rfl))
        clear hi h1 h2
        go_wp2_with fail
        go_ret
        exact ⟨by rw [HS.out] <;> first | rfl | simp, HB.out.bel⟩
      · have q2 : ¬ (T.size : Int) ≤ 500 := by omega
        replace HS := Kp.mk (HS.out.trans (show _ = false by rw [decide_eq_true h1, decide_eq_false h2]; rfl))
        clear h1 h2
        go_wp2_with fail
        go_ret
        exact ⟨by rw [HS.out] <;> rfl, HB.out.bel⟩
    · have q1 : ¬ (M.size : Int) ≤ 100 := by omega
      replace HS := Kp.mk (HS.out.trans (show _ = false by rw [decide_eq_false h1]; rfl))
      clear h1
      go_wp2_with fail
      go_ret
      exact ⟨by rw [HS.out] <;> rfl, HB.out.bel⟩
theorem fldOk_list (v : Value) (w : World) (cs : List Value) (hc : cs = [v]) (h : Rdb Try.prog w 46 cs) : ∃ l, RdF w v l ∧ ∀ p ∈ l, FldOk p := by
  obtain ⟨v2, l, h1, h2, h3⟩ := h.list (f := fldC) (Q := FldOk) Try.underlying46 Try.fcellsFld (by omega) fun E hE => fld_of Try.underlying87 Try.underlying9 Try.fcellsFld Try.fcellsFs ⟨_, rfl, rfl, rfl⟩ ⟨_, rfl, rfl, rfl⟩ hE
  rw [hc] at h1
  cases h1
  exact ⟨l, h2, h3⟩
theorem Try.cellsHd : Try.prog.cellsOf 50 = 6 := by kernel_rfl
theorem Try.cellsHi : Try.prog.cellsOf 3 = 1 := by kernel_rfl
theorem Try.cellsHl : Try.prog.cellsOf 46 = 1 := by kernel_rfl
set_option maxRecDepth 100000 in
theorem head_arg23 (v : Value) (w : World) (h : Arg Try.prog w 50 v) : ∃ (m t : ByteArray) (mi st : Int) (r : ByteArray) (u : Value) (l : List Fld), v = .agg #[.string m, .string t, .int .i64 mi, .int .i64 st, .string r, u] ∧ RdF w u l ∧ (∀ p ∈ l, FldOk p) ∧ m.size ≤ maxLen ∧ t.size ≤ maxLen ∧ r.size ≤ maxLen ∧ (-9223372036854775808 ≤ mi ∧ mi ≤ 9223372036854775807) ∧ -9223372036854775808 ≤ st ∧ st ≤ 9223372036854775807 := by
  obtain ⟨cs, rfl, hr⟩ := h.struct Try.underlying50
  obtain ⟨hl, hf⟩ := hr.struct Try.underlying50
  rw [Try.cellsHd] at hl
  have f0 : Rdb Try.prog w 9 ((cs.drop 0).take (Try.prog.cellsOf 9)) := hf 0 _ rfl
  have f1 : Rdb Try.prog w 9 ((cs.drop 1).take (Try.prog.cellsOf 9)) := hf 1 _ rfl
  have f2 : Rdb Try.prog w 3 ((cs.drop 2).take (Try.prog.cellsOf 3)) := hf 2 _ rfl
  have f3 : Rdb Try.prog w 3 ((cs.drop 3).take (Try.prog.cellsOf 3)) := hf 3 _ rfl
  have f4 : Rdb Try.prog w 9 ((cs.drop 4).take (Try.prog.cellsOf 9)) := hf 4 _ rfl
  have f5 : Rdb Try.prog w 46 ((cs.drop 5).take (Try.prog.cellsOf 46)) := hf 5 _ rfl
  rw [Try.fcellsFs] at f0 f1 f4
  rw [Try.cellsHi] at f2 f3
  rw [Try.cellsHl] at f5
  match cs, hl with
  | [x0, x1, x2, x3, x4, x5], _ =>
    obtain ⟨m, k0, z0⟩ := f0.str Try.underlying9
    obtain ⟨t, k1, z1⟩ := f1.str Try.underlying9
    obtain ⟨mi, k2, z2⟩ := f2.int Try.underlying3
    obtain ⟨st, k3, z3⟩ := f3.int Try.underlying3
    obtain ⟨r, k4, z4⟩ := f4.str Try.underlying9
    obtain ⟨l, k5, z5⟩ := fldOk_list x5 w _ rfl f5
    obtain ⟨b0, b1⟩ := bounds_i64 z3
    obtain ⟨b2, b3⟩ := bounds_i64 z2
    simp at k0 k1 k2 k3 k4
    exact ⟨m, t, mi, st, r, x5, l, by rw [k0, k1, k2, k3, k4], k5, z5, z0, z1, z4, ⟨b2, b3⟩, b0, b1⟩
theorem lineH_sizeQ (m t : ByteArray) (mi st : Int) (r : ByteArray) (hm : m.size ≤ 2000) (ht : t.size ≤ 2000) (hr : r.size ≤ 2000) : (lineH m t mi st r).size ≤ 1000000 := by
  have hv := verS_size mi
  have hp := padL_size st
  have ap : ∀ a b : ByteArray, (a ++ b).size = a.size + b.size := fun a b => by rw [ba_size', ba_size', ba_size', cat_app, List.length_append]
  have h1 : (⟨#[32]⟩ : ByteArray).size = 1 := rfl
  unfold lineH
  split <;> simp only [ap, h1] <;> omega
theorem fLine_size (n v : ByteArray) : (fLine n v).size ≤ n.size + v.size + 2 := by
  have ap : ∀ a b : ByteArray, (a ++ b).size = a.size + b.size := fun a b => by rw [ba_size', ba_size', ba_size', cat_app, List.length_append]
  have h1 : (⟨#[58]⟩ : ByteArray).size = 1 := rfl
  have h2 : (⟨#[58, 32]⟩ : ByteArray).size = 2 := rfl
  unfold fLine
  split <;> simp only [ap, h1, h2] <;> omega
/-- What a short head with few fields has. -/
theorem head_ok {m t r : ByteArray} (mi st : Int) {l : List Fld} (h : shB m t r l = true) (hl : l.length ≤ 12) :
    (∀ p ∈ l, FldSm p) ∧ (∀ f ∈ cFld l, f.1.size ≤ 1000000 ∧ f.2.size ≤ 1000000) ∧ (cFld l).length ≤ 10000 ∧ (headT m t mi st r l).length ≤ 100 ∧ (∀ s ∈ headT m t mi st r l, s.size ≤ 10000000) ∧ m.size ≤ 1000000 ∧ t.size ≤ 1000000 ∧ r.size ≤ 1000000 := by
  obtain ⟨h1, h2, h3, h4⟩ := shB_out h
  have h5 := (hFew_out h1).2
  have h6 := cFld_small (l := l) (by omega) (hFew_vals h1)
  have h7 := cFld_len l
  refine ⟨h5, fun f hf => ⟨by have := (h6 f hf).1; omega, by have := (h6 f hf).2; omega⟩, by omega, ?_, fun s hs => ?_, by omega, by omega, by omega⟩
  · show ((lineH m t mi st r) :: (cFld l).map lnF).length ≤ 100
    rw [List.length_cons, List.length_map]
    omega
  · rcases List.mem_cons.1 (show s ∈ lineH m t mi st r :: (cFld l).map lnF from hs) with rfl | hs
    · have := lineH_sizeQ m t mi st r (by omega) (by omega) (by omega)
      omega
    · obtain ⟨f, hf, rfl⟩ := List.mem_map.1 hs
      have h8 := h6 f hf
      have := fLine_size f.1 f.2
      show (fLine f.1 f.2).size ≤ _
      omega
end Go.Proofs.Ytnpolkpofaamlaa
