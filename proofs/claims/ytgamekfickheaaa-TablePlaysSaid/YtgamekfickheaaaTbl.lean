/- Things in slots (layer 40): the law's same: a table against the document's slots (bin/mktbl.py). -/
import Derived.Test.YtgamekfickheaaaTbk
namespace Go.Proofs.Ytgamekfickheaaa
open Go.RowKit
set_option linter.unusedVariables false
set_option linter.unusedSimpArgs false

/-- What holds in same's first part. -/
structure SmI (b g k3 : Nat) (v : Value) (S : List Slt) (w0 w : World) : Prop where
  t : TB b g S w
  r : RdW w v S
  b3 : w.heap[k3]? = some (.cells #[v] 46 (0, 0))
  bl : Below w0.heap.size w0 w
theorem SmI.below {b g k3 : Nat} {v : Value} {S : List Slt} {w0 w w' : World} (h : SmI b g k3 v S w0 w) (hb : Below w.heap.size w w') : SmI b g k3 v S w0 w' :=
  ⟨h.t.below hb, h.r.below hb, (hb.block _ (blk_lt h.b3)).trans h.b3, h.bl.trans (hb.mono h.bl.size)⟩
theorem SmI.drew {b g k3 : Nat} {v : Value} {S : List Slt} {w0 w : World} (h : SmI b g k3 v S w0 w) : SmI b g k3 v S w0 w.drew := h.below (Below.refl _ _).drew
/-- What holds in its last. -/
structure SmK (k3 k6 k8 : Nat) (v : Value) (S : List Slt) (M : Int) (w0 w : World) : Prop where
  r : RdW w v S
  b3 : w.heap[k3]? = some (.cells #[v] 46 (0, 0))
  b6 : w.heap[k6]? = some (.cells #[.bool true] 4 (0, 0))
  b8 : w.heap[k8]? = some (.cells #[.int .i64 M] 3 (0, 0))
  bl : Below w0.heap.size w0 w
theorem SmK.below {k3 k6 k8 : Nat} {v : Value} {S : List Slt} {M : Int} {w0 w w' : World} (h : SmK k3 k6 k8 v S M w0 w) (hb : Below w.heap.size w w') : SmK k3 k6 k8 v S M w0 w' :=
  ⟨h.r.below hb, (hb.block _ (blk_lt h.b3)).trans h.b3, (hb.block _ (blk_lt h.b6)).trans h.b6, (hb.block _ (blk_lt h.b8)).trans h.b8, h.bl.trans (hb.mono h.bl.size)⟩
theorem SmK.drew {k3 k6 k8 : Nat} {v : Value} {S : List Slt} {M : Int} {w0 w : World} (h : SmK k3 k6 k8 v S M w0 w) : SmK k3 k6 k8 v S M w0 w.drew := h.below (Below.refl _ _).drew
theorem rdw_lt {w : World} {v : Value} {S : List Slt} (h : RdW w v S) (h0 : 0 < S.length) : ∀ k, v.ownBlock = some k → k < w.heap.size := by
  obtain ⟨a, c, rfl⟩ := rdw_form h
  obtain ⟨b, o, rfl, hb, -⟩ := rdw_cells h h0
  intro k hk
  simp [Value.ownBlock] at hk
  omega
set_option maxRecDepth 100000 in
set_option maxHeartbeats 4000000 in
theorem tsame_any (b g : Nat) (v : Value) (S : List Slt) (w : World) (hT : TB b g S w) (hv : RdW w v S) (hl : S.length ≤ 1000) :
    Calls Try.prog 37 #[.pointer (some ⟨b, 0, none⟩), v] w fun e w' => e = .returned (.bool true) ∧ Below w.heap.size w w' := by
  have hE : ∀ (c : Array Value) (w : World), (binOp .eql 135 (.func (.func 134) #[] c) .nilFunc).run Try.prog w = .ok (.bool false) w := fun c w => by kernel_rfl
  have hmf : ∀ (fn : Fn) (first cap : Array Value) (w : World), (Instr.makeFunc fn first cap).run Try.prog w = .ok (.func fn first cap) w := fun _ _ _ _ => rfl
  have HT := Kp.mk hT
  have HV := Kp.mk hv
  have HVN := Kp.mk (fun h0 => rdw_lt hv h0)
  have hle := lenN_le S
  have hwr : IntKind.i64.wrap ((S.length : Int) - (lenN S : Int)) = (S.length : Int) - (lenN S : Int) := wrapT4 _ (by omega) (by omega)
  have HW0 := Kp.mk (Nat.le_refl w.heap.size)
  obtain ⟨a, c, rfl⟩ := rdw_form hv
  clear hT hv
  go_enter Try.func37, Try.ntmps37
  go_upto_region 1 with fail
  have HI := Kp.mk (show SmI b g w.heap.size (.slice a S.length c) S w (w.alloc (.cells #[.slice a S.length c] 46)) from
    ⟨HT.out.below ((Below.refl _ _).alloc (Nat.le_refl _) _), HV.out.below ((Below.refl _ _).alloc (Nat.le_refl _) _), heap_alloc_new _ _, (Below.refl _ _).alloc (Nat.le_refl _) _⟩)
  have HD := Kp.mk HI.out.drew
  have p3 := fun p : InS (SmI b g w.heap.size (.slice a S.length c) S w) => blk_cell (i := 0) p.ok.b3 rfl
  haveI hne : Nonempty (InS (SmI b g w.heap.size (.slice a S.length c) S w)) := ⟨⟨_, HI.out⟩⟩
  refine region_in _ (by kernel_rfl) (by kernel_rfl) HD.out ?_
  repeat (go_big_quiet_step (first
    | (go_at_call 87; exact call_in fun w h => (tlen_any b g S w h.t hl).mono fun _ _ h2 => ⟨h2.1, h.below h2.2⟩)
    | (go_at_call 89; exact call_in fun w h => (troom_any b g S w h.t hl).mono fun _ _ h2 => ⟨h2.1, h.below h2.2⟩)
    | (go_at_call 88; exact call_in fun w h => (rslen_any _ S w h.r hl).mono fun _ _ h2 => ⟨h2.1, h.below h2.2⟩)))
  refine wpQuiet_nil ?_
  intro _ hw'
  obtain ⟨wq, rfl⟩ := hw'
  have HQ := Kp.mk wq.ok
  clear hne p3 HD HI
  generalize wq.w = wx at *
  go_upto_region 3 with fail
  go_cut [5, 6] (fun v5 v6 wr => ∃ k5 k6 : Nat, v5 = .pointer (some ⟨k5, 0, none⟩) ∧ v6 = .pointer (some ⟨k6, 0, none⟩) ∧ wr.heap[k5]? = some (.cells #[.int .i64 (-1)] 3 (0, 0)) ∧ wr.heap[k6]? = some (.cells #[.bool true] 4 (0, 0)) ∧ wx.heap.size ≤ k5 ∧ wx.heap.size ≤ k6 ∧ k5 ≠ k6 ∧ SmI b g w.heap.size (.slice a S.length c) S w wr)
  case first =>
    go_wp2_with fail
    go_meet
    have e1 : (wx.alloc (.cells #[.int .i64 (-1)] 3)).heap.size = wx.heap.size + 1 := World.size_alloc _ _
    have k1 := heap_alloc_new (wx.alloc (.cells #[.int .i64 (-1)] 3)) (.cells #[.bool true] 4)
    rw [e1] at k1
    exact ⟨wx.heap.size, wx.heap.size + 1, rfl, rfl, blk_alloc (heap_alloc_new _ _), k1, Nat.le_refl _, by omega, by omega, HQ.out.below (((Below.refl _ _).alloc (Nat.le_refl _) _).alloc (by rw [e1]; omega) _)⟩
  case rest =>
    obtain ⟨k5, k6, rfl, rfl, h5, h6, g5, g6, n56, hi⟩ := hcut
    have H5 := Kp.mk h5
    have H6 := Kp.mk h6
    have HI := Kp.mk hi
    have hsz := HQ.out.bl.size
    have hk3 := blk_lt HQ.out.b3
    clear h5 h6 hi
    go_wp2_with fail
    refine (tAll_any b _).mono ?_
    rintro e w2 ⟨rfl, rfl⟩
    have hAB := (Below.refl wc.heap.size wc).alloc (Nat.le_refl _) (.cells #[.pointer (some ⟨b, 0, none⟩)] 44)
    have kT := heap_alloc_new wc (.cells #[.pointer (some ⟨b, 0, none⟩)] 44)
    have HTB := Kp.mk kT
    have hzr : w.heap.size < wc.heap.size := Nat.lt_of_le_of_lt (by omega) (blk_lt H5.out)
    have I2 := Kp.mk (HI.out.below hAB)
    have I5 := Kp.mk ((hAB.block _ (blk_lt H5.out)).trans H5.out)
    have I6 := Kp.mk ((hAB.block _ (blk_lt H6.out)).trans H6.out)
    have HN5 := Kp.mk (show ∀ k, 0 < S.length → (Value.slice a S.length c).ownBlock = some k → k ≠ k5 ∧ k ≠ k6 from fun k h0 hk => by have := HVN.out h0 k hk; omega)
    have N := Kp.mk (show k5 ≠ k6 ∧ w.heap.size ≠ k5 ∧ w.heap.size ≠ k6 from ⟨n56, by omega, by omega⟩)
    have HR := Kp.mk (show wc.heap.size ≠ k5 ∧ wc.heap.size ≠ k6 from ⟨by have := blk_lt H5.out; omega, by have := blk_lt H6.out; omega⟩)
    have NB := Kp.mk (show b < w.heap.size ∧ g < w.heap.size from ⟨blk_lt HT.out.hb, blk_lt HT.out.hg⟩)
    clear hAB kT n56
    go_wp2_with fail
    refine (tall1_any b g S (.slice a S.length c) wc.heap.size w.heap.size k5 k6 _ I2.out.t I2.out.r hl HTB.out I2.out.b3 I5.out I6.out N.out.1 N.out.2.1 N.out.2.2 (fun h0 k hk => HN5.out k h0 hk)).mono ?_
    rintro e w3 ⟨rfl, h6, hk⟩
    have HK3 := Kp.mk hk
    have J6 := Kp.mk h6
    have JT := Kp.mk (I2.out.t.kept (hk.block _ (blk_lt I2.out.t.hb) (by have := NB.out.1; omega)) (hk.block _ (blk_lt I2.out.t.hg) (by have := NB.out.2; omega)))
    have JR := Kp.mk (hk.rdw I2.out.r fun h0 k hk => HN5.out k h0 hk)
    have J3 := Kp.mk ((hk.block _ (blk_lt I2.out.b3) ⟨N.out.2.1, N.out.2.2⟩).trans I2.out.b3)
    have JTT := Kp.mk ((hk.block _ (blk_lt HTB.out) HR.out).trans HTB.out)
    have JB := Kp.mk (show Below w.heap.size w w3 from I2.out.bl.trans (hk.below (by have := I2.out.bl.size; omega) fun k hk => by omega))
    clear h6 hk
    go_wp2_with fail
    have hAB := (Below.refl w3.heap.size w3).alloc (Nat.le_refl _) (.cells #[.int .i64 0] 3)
    have k8 := heap_alloc_new w3 (.cells #[.int .i64 0] 3)
    have K8 := Kp.mk k8
    have L6 := Kp.mk ((hAB.block _ (blk_lt J6.out)).trans J6.out)
    have L3 := Kp.mk ((hAB.block _ (blk_lt J3.out)).trans J3.out)
    have LT := Kp.mk (JT.out.below hAB)
    have LTT := Kp.mk ((hAB.block _ (blk_lt JTT.out)).trans JTT.out)
    have LR := Kp.mk (JR.out.below hAB)
    have LB := Kp.mk (JB.out.trans (hAB.mono JB.out.size))
    have HZ := Kp.mk (show w.heap.size < w3.heap.size ∧ k6 < w3.heap.size from ⟨blk_lt J3.out, blk_lt J6.out⟩)
    clear hAB k8
    refine (tall2_any b g S wc.heap.size w3.heap.size _ LT.out hl LTT.out K8.out).mono ?_
    rintro e w4 ⟨rfl, h8, hk⟩
    have HF0 := Kp.mk (show SmK w.heap.size k6 w3.heap.size (.slice a S.length c) S ((min 2 (lenN S) : Nat) : Int) w w4 from
      ⟨hk.rdw LR.out fun h0 k hk => by have := HVN.out h0 k hk; have := HZ.out.1; omega, (hk.block _ (blk_lt L3.out) (by have := HZ.out.1; omega)).trans L3.out, (hk.block _ (blk_lt L6.out) (by have := HZ.out.2; omega)).trans L6.out, h8, LB.out.trans (hk.below (by have := LB.out.size; omega) fun k hk => by have := HZ.out.1; omega)⟩)
    clear h8 hk
    have hmn2 : (((lenN S : Int) < 2) ∧ ((min 2 (lenN S) : Nat) : Int) = (lenN S : Int)) ∨ ((¬ (lenN S : Int) < 2) ∧ ((min 2 (lenN S) : Nat) : Int) = 2) := by omega
    generalize ((min 2 (lenN S) : Nat) : Int) = M at *
    rcases hmn2 with ⟨hq, rfl⟩ | ⟨hq, rfl⟩
    · have hq2 : ¬ (2 : Int) < (lenN S : Int) := by omega
      go_upto_region 10 with fail
      have HF := Kp.mk HF0.out
      have HD := Kp.mk HF.out.drew
      have p3 := fun p : InS (SmK w.heap.size k6 w3.heap.size (.slice a S.length c) S (lenN S : Int) w) => blk_cell (i := 0) p.ok.b3 rfl
      have p6 := fun p : InS (SmK w.heap.size k6 w3.heap.size (.slice a S.length c) S (lenN S : Int) w) => blk_cell (i := 0) p.ok.b6 rfl
      have p8 := fun p : InS (SmK w.heap.size k6 w3.heap.size (.slice a S.length c) S (lenN S : Int) w) => blk_cell (i := 0) p.ok.b8 rfl
      haveI hne : Nonempty (InS (SmK w.heap.size k6 w3.heap.size (.slice a S.length c) S (lenN S : Int) w)) := ⟨⟨_, HF.out⟩⟩
      refine region_in _ (by kernel_rfl) (by kernel_rfl) HD.out ?_
      repeat (go_big_quiet_step (first
        | (go_at_call 88; exact call_in fun w h => (rslen_any _ S w h.r hl).mono fun _ _ h2 => ⟨h2.1, h.below h2.2⟩)))
      refine wpQuiet_nil ?_
      intro _ hw'
      obtain ⟨wq, rfl⟩ := hw'
      have HQ2 := Kp.mk wq.ok
      clear hne p3 p6 p8 HD HF
      generalize wq.w = wy at *
      go_wp2_with fail
      go_ret
      exact ⟨rfl, HQ2.out.bl⟩
    · have hq2 : (2 : Int) ≤ (lenN S : Int) := by omega
      go_upto_region 10 with fail
      have HF := Kp.mk HF0.out
      have HD := Kp.mk HF.out.drew
      have p3 := fun p : InS (SmK w.heap.size k6 w3.heap.size (.slice a S.length c) S 2 w) => blk_cell (i := 0) p.ok.b3 rfl
      have p6 := fun p : InS (SmK w.heap.size k6 w3.heap.size (.slice a S.length c) S 2 w) => blk_cell (i := 0) p.ok.b6 rfl
      have p8 := fun p : InS (SmK w.heap.size k6 w3.heap.size (.slice a S.length c) S 2 w) => blk_cell (i := 0) p.ok.b8 rfl
      haveI hne : Nonempty (InS (SmK w.heap.size k6 w3.heap.size (.slice a S.length c) S 2 w)) := ⟨⟨_, HF.out⟩⟩
      refine region_in _ (by kernel_rfl) (by kernel_rfl) HD.out ?_
      repeat (go_big_quiet_step (first
        | (go_at_call 88; exact call_in fun w h => (rslen_any _ S w h.r hl).mono fun _ _ h2 => ⟨h2.1, h.below h2.2⟩)))
      refine wpQuiet_nil ?_
      intro _ hw'
      obtain ⟨wq, rfl⟩ := hw'
      have HQ2 := Kp.mk wq.ok
      clear hne p3 p6 p8 HD HF
      generalize wq.w = wy at *
      go_wp2_with fail
      go_ret
      exact ⟨rfl, HQ2.out.bl⟩
end Go.Proofs.Ytgamekfickheaaa
