/- How heads differ (layer 51): DiffHeads (bin/mkcar.py). -/
import Derived.Test.YtnpolkpofaamlaaCaq
import Derived.Test.YtnpolkpofaamlaaDif
namespace Go.Proofs.Ytnpolkpofaamlaa
open Go.RowKit
set_option linter.unusedVariables false
set_option linter.unusedSimpArgs false

set_option maxRecDepth 100000 in
set_option maxHeartbeats 3000000 in
theorem dh_walk (m1 t1 : ByteArray) (i1 s1 : Int) (r1 : ByteArray) (u1 : Value) (l1 : List Fld) (m2 t2 : ByteArray) (i2 s2 : Int) (r2 : ByteArray) (u2 : Value) (l2 : List Fld) (w : World)
    (hv1 : RdF w u1 l1) (hz1 : ∀ p ∈ l1, FldOk p) (hm1 : m1.size ≤ maxLen) (ht1 : t1.size ≤ maxLen) (hr1 : r1.size ≤ maxLen) (hi1 : -9223372036854775808 ≤ s1 ∧ s1 ≤ 9223372036854775807)
    (hv2 : RdF w u2 l2) (hz2 : ∀ p ∈ l2, FldOk p) (hm2 : m2.size ≤ maxLen) (ht2 : t2.size ≤ maxLen) (hr2 : r2.size ≤ maxLen) (hi2 : -9223372036854775808 ≤ s2 ∧ s2 ≤ 9223372036854775807) :
    Calls Try.prog 12 #[.agg #[.string m1, .string t1, .int .i64 i1, .int .i64 s1, .string r1, u1], .agg #[.string m2, .string t2, .int .i64 i2, .int .i64 s2, .string r2, u2]] w fun e w' => e = .returned (.bool true) ∧ Below w.heap.size w w' := by
  have HV1 := Kp.mk hv1
  have HV2 := Kp.mk hv2
  have HS1 := Kp.mk hi1
  have HS2 := Kp.mk hi2
  have SH1 := Kp.mk (fun W (hW : Below w.heap.size w W) => short_any m1 t1 r1 i1 s1 u1 l1 W (HV1.out.below hW) hz1 hm1 ht1 hr1)
  have SH2 := Kp.mk (fun W (hW : Below w.heap.size w W) => short_any m2 t2 r2 i2 s2 u2 l2 W (HV2.out.below hW) hz2 hm2 ht2 hr2)
  obtain ⟨fa1, fc1, rfl, -, -, -⟩ := hv1
  obtain ⟨fa2, fc2, rfl, -, -, -⟩ := hv2
  clear hz1 hz2 hm1 hm2 ht1 ht2 hr1 hr2 hi1 hi2
  have q1 := heap_alloc_new w (.cells #[.string m1, .string t1, .int .i64 i1, .int .i64 s1, .string r1, .slice fa1 l1.length fc1] 50)
  have e1 : (w.alloc (.cells #[.string m1, .string t1, .int .i64 i1, .int .i64 s1, .string r1, .slice fa1 l1.length fc1] 50)).heap.size = w.heap.size + 1 := World.size_alloc _ _
  have q2 := heap_alloc_new (w.alloc (.cells #[.string m1, .string t1, .int .i64 i1, .int .i64 s1, .string r1, .slice fa1 l1.length fc1] 50)) (.cells #[.string m2, .string t2, .int .i64 i2, .int .i64 s2, .string r2, .slice fa2 l2.length fc2] 50)
  rw [e1] at q2
  have HW := Kp.mk (((Below.refl w.heap.size w).alloc (Nat.le_refl _) (.cells #[.string m1, .string t1, .int .i64 i1, .int .i64 s1, .string r1, .slice fa1 l1.length fc1] 50)).alloc (by rw [e1]; omega) (.cells #[.string m2, .string t2, .int .i64 i2, .int .i64 s2, .string r2, .slice fa2 l2.length fc2] 50))
  have G1 := Kp.mk (blk_alloc (o2 := .cells #[.string m2, .string t2, .int .i64 i2, .int .i64 s2, .string r2, .slice fa2 l2.length fc2] 50) q1)
  have G2 := Kp.mk q2
  clear q1 q2 e1
  have a0 := blk_cell (i := 0) G1.out rfl
  have a1 := blk_cell (i := 1) G1.out rfl
  have a2 := blk_cell (i := 2) G1.out rfl
  have a3 := blk_cell (i := 3) G1.out rfl
  have a4 := blk_cell (i := 4) G1.out rfl
  have a5 := blk_cell (i := 5) G1.out rfl
  have b0 := blk_cell (i := 0) G2.out rfl
  have b1 := blk_cell (i := 1) G2.out rfl
  have b2 := blk_cell (i := 2) G2.out rfl
  have b3 := blk_cell (i := 3) G2.out rfl
  have b4 := blk_cell (i := 4) G2.out rfl
  have b5 := blk_cell (i := 5) G2.out rfl
  cases hs1 : shB m1 t1 r1 l1
  all_goals rw [hs1] at SH1
  · go_enter Try.func12, Try.ntmps12
    go_wp2_with fail
    refine (SH1.out _ HW.out).mono ?_
    rintro e w1 ⟨rfl, hb⟩
    replace G1 := Kp.mk ((hb.block _ (blk_lt G1.out)).trans G1.out)
    replace G2 := Kp.mk ((hb.block _ (blk_lt G2.out)).trans G2.out)
    replace HW := Kp.mk (HW.out.trans (hb.mono HW.out.size))
    clear hb
    clear a0 a1 a2 a3 a4 a5 b0 b1 b2 b3 b4 b5
    have a0 := blk_cell (i := 0) G1.out rfl
    have a1 := blk_cell (i := 1) G1.out rfl
    have a2 := blk_cell (i := 2) G1.out rfl
    have a3 := blk_cell (i := 3) G1.out rfl
    have a4 := blk_cell (i := 4) G1.out rfl
    have a5 := blk_cell (i := 5) G1.out rfl
    have b0 := blk_cell (i := 0) G2.out rfl
    have b1 := blk_cell (i := 1) G2.out rfl
    have b2 := blk_cell (i := 2) G2.out rfl
    have b3 := blk_cell (i := 3) G2.out rfl
    have b4 := blk_cell (i := 4) G2.out rfl
    have b5 := blk_cell (i := 5) G2.out rfl
    go_wp2_with fail
    refine (lives51_any _).mono ?_
    rintro e w9 ⟨rfl, hb⟩
    replace HW := Kp.mk (HW.out.trans (hb.mono HW.out.size))
    go_wp2_with fail
    go_ret
    exact ⟨rfl, HW.out⟩
  · cases hs2 : shB m2 t2 r2 l2
    all_goals rw [hs2] at SH2
    · go_enter Try.func12, Try.ntmps12
      go_wp2_with fail
      refine (SH1.out _ HW.out).mono ?_
      rintro e w1 ⟨rfl, hb⟩
      replace G1 := Kp.mk ((hb.block _ (blk_lt G1.out)).trans G1.out)
      replace G2 := Kp.mk ((hb.block _ (blk_lt G2.out)).trans G2.out)
      replace HW := Kp.mk (HW.out.trans (hb.mono HW.out.size))
      clear hb
      clear a0 a1 a2 a3 a4 a5 b0 b1 b2 b3 b4 b5
      have a0 := blk_cell (i := 0) G1.out rfl
      have a1 := blk_cell (i := 1) G1.out rfl
      have a2 := blk_cell (i := 2) G1.out rfl
      have a3 := blk_cell (i := 3) G1.out rfl
      have a4 := blk_cell (i := 4) G1.out rfl
      have a5 := blk_cell (i := 5) G1.out rfl
      have b0 := blk_cell (i := 0) G2.out rfl
      have b1 := blk_cell (i := 1) G2.out rfl
      have b2 := blk_cell (i := 2) G2.out rfl
      have b3 := blk_cell (i := 3) G2.out rfl
      have b4 := blk_cell (i := 4) G2.out rfl
      have b5 := blk_cell (i := 5) G2.out rfl
      go_wp2_with fail
      refine (SH2.out _ HW.out).mono ?_
      rintro e w2 ⟨rfl, hb⟩
      replace G1 := Kp.mk ((hb.block _ (blk_lt G1.out)).trans G1.out)
      replace G2 := Kp.mk ((hb.block _ (blk_lt G2.out)).trans G2.out)
      replace HW := Kp.mk (HW.out.trans (hb.mono HW.out.size))
      clear hb
      clear a0 a1 a2 a3 a4 a5 b0 b1 b2 b3 b4 b5
      have a0 := blk_cell (i := 0) G1.out rfl
      have a1 := blk_cell (i := 1) G1.out rfl
      have a2 := blk_cell (i := 2) G1.out rfl
      have a3 := blk_cell (i := 3) G1.out rfl
      have a4 := blk_cell (i := 4) G1.out rfl
      have a5 := blk_cell (i := 5) G1.out rfl
      have b0 := blk_cell (i := 0) G2.out rfl
      have b1 := blk_cell (i := 1) G2.out rfl
      have b2 := blk_cell (i := 2) G2.out rfl
      have b3 := blk_cell (i := 3) G2.out rfl
      have b4 := blk_cell (i := 4) G2.out rfl
      have b5 := blk_cell (i := 5) G2.out rfl
      go_wp2_with fail
      refine (lives51_any _).mono ?_
      rintro e w9 ⟨rfl, hb⟩
      replace HW := Kp.mk (HW.out.trans (hb.mono HW.out.size))
      go_wp2_with fail
      go_ret
      exact ⟨rfl, HW.out⟩
    · by_cases hn1 : l1.length ≤ 12
      · have q1 : ¬ (12 : Int) < (l1.length : Int) := by omega
        by_cases hn2 : l2.length ≤ 12
        · have q2 : ¬ (12 : Int) < (l2.length : Int) := by omega
          obtain ⟨x1, x2, x3, x4, x5, x6, x7, x8⟩ := head_ok (m := m1) (t := t1) (r := r1) i1 s1 hs1 hn1
          obtain ⟨y1, y2, y3, y4, y5, y6, y7, y8⟩ := head_ok (m := m2) (t := t2) (r := r2) i2 s2 hs2 hn2
          have A1 := Kp.mk (fun W (hW : Below w.heap.size w W) => hlines_any m1 t1 i1 s1 r1 _ l1 W (HV1.out.below hW) x1 (by omega) x2 x3 x6 x7 x8 HS1.out.1 HS1.out.2)
          have A2 := Kp.mk (fun W (hW : Below w.heap.size w W) => hlines_any m2 t2 i2 s2 r2 _ l2 W (HV2.out.below hW) y1 (by omega) y2 y3 y6 y7 y8 HS2.out.1 HS2.out.2)
          have B1 := Kp.mk (fun W (hW : Below w.heap.size w W) => rtext51_any m1 t1 i1 s1 r1 _ l1 W (HV1.out.below hW) x1 (by omega) x2 x3 x6 x7 x8 HS1.out.1 HS1.out.2)
          have B2 := Kp.mk (fun W (hW : Below w.heap.size w W) => rtext51_any m2 t2 i2 s2 r2 _ l2 W (HV2.out.below hW) y1 (by omega) y2 y3 y6 y7 y8 HS2.out.1 HS2.out.2)
          have H1 := Kp.mk (fun W (hW : Below w.heap.size w W) => dheads_any m1 t1 i1 s1 r1 _ m2 t2 i2 s2 r2 _ _ _ W (fun X hX => A1.out X (hW.trans (hX.mono hW.size))) (fun X hX => A2.out X (hW.trans (hX.mono hW.size))) x4 y4 x5 y5)
          have H2 := Kp.mk (fun W (hW : Below w.heap.size w W) => rheads_any m1 t1 i1 s1 r1 _ m2 t2 i2 s2 r2 _ _ _ W (fun X hX => B1.out X (hW.trans (hX.mono hW.size))) (fun X hX => B2.out X (hW.trans (hX.mono hW.size))) x4 y4 x5 y5)
          have HLL := Kp.mk (show (hdL (headT m1 t1 i1 s1 r1 l1) (headT m2 t2 i2 s2 r2 l2)).length ≤ 1000000 by
            show ((dfL _ _).map hdT).length ≤ _
            rw [List.length_map]
            have := dfL_len (headT m1 t1 i1 s1 r1 l1) (headT m2 t2 i2 s2 r2 l2)
            omega)
          clear x1 x2 x3 x4 x5 x6 x7 x8 y1 y2 y3 y4 y5 y6 y7 y8 A1 A2 B1 B2 hs1 hs2
          generalize hdL (headT m1 t1 i1 s1 r1 l1) (headT m2 t2 i2 s2 r2 l2) = L at *
          have HSM := Kp.mk (show sameL L L = true from decide_eq_true rfl)
          go_enter Try.func12, Try.ntmps12
          go_wp2_with fail
          refine (SH1.out _ HW.out).mono ?_
          rintro e w1 ⟨rfl, hb⟩
          replace G1 := Kp.mk ((hb.block _ (blk_lt G1.out)).trans G1.out)
          replace G2 := Kp.mk ((hb.block _ (blk_lt G2.out)).trans G2.out)
          replace HW := Kp.mk (HW.out.trans (hb.mono HW.out.size))
          clear hb
          clear a0 a1 a2 a3 a4 a5 b0 b1 b2 b3 b4 b5
          have a0 := blk_cell (i := 0) G1.out rfl
          have a1 := blk_cell (i := 1) G1.out rfl
          have a2 := blk_cell (i := 2) G1.out rfl
          have a3 := blk_cell (i := 3) G1.out rfl
          have a4 := blk_cell (i := 4) G1.out rfl
          have a5 := blk_cell (i := 5) G1.out rfl
          have b0 := blk_cell (i := 0) G2.out rfl
          have b1 := blk_cell (i := 1) G2.out rfl
          have b2 := blk_cell (i := 2) G2.out rfl
          have b3 := blk_cell (i := 3) G2.out rfl
          have b4 := blk_cell (i := 4) G2.out rfl
          have b5 := blk_cell (i := 5) G2.out rfl
          go_wp2_with fail
          refine (SH2.out _ HW.out).mono ?_
          rintro e w2 ⟨rfl, hb⟩
          replace G1 := Kp.mk ((hb.block _ (blk_lt G1.out)).trans G1.out)
          replace G2 := Kp.mk ((hb.block _ (blk_lt G2.out)).trans G2.out)
          replace HW := Kp.mk (HW.out.trans (hb.mono HW.out.size))
          clear hb
          clear a0 a1 a2 a3 a4 a5 b0 b1 b2 b3 b4 b5
          have a0 := blk_cell (i := 0) G1.out rfl
          have a1 := blk_cell (i := 1) G1.out rfl
          have a2 := blk_cell (i := 2) G1.out rfl
          have a3 := blk_cell (i := 3) G1.out rfl
          have a4 := blk_cell (i := 4) G1.out rfl
          have a5 := blk_cell (i := 5) G1.out rfl
          have b0 := blk_cell (i := 0) G2.out rfl
          have b1 := blk_cell (i := 1) G2.out rfl
          have b2 := blk_cell (i := 2) G2.out rfl
          have b3 := blk_cell (i := 3) G2.out rfl
          have b4 := blk_cell (i := 4) G2.out rfl
          have b5 := blk_cell (i := 5) G2.out rfl
          go_upto_region 3 with fail
          have GA := G1
          have GB := G2
          generalize w2 = W5 at *
          clear a0 a1 a2 a3 a4 a5 b0 b1 b2 b3 b4 b5
          refine wp_region_held_drew (S := fun w' => Below W5.heap.size W5 w') (by kernel_rfl) (show Below W5.heap.size W5 W5.drew from ⟨rfl, rfl, rfl, Nat.le_refl _, fun _ _ => rfl⟩) (fun hHeld => ?_)
          refine wpAnyH_take (i := 0) (oi := ⟨some 26, .load 50 (.tmp 2), _, _, _, none⟩) (v := ?_) rfl (by kernel_rfl) (by kernel_rfl) (by kernel_rfl) (fun _ _ _ h => h) (Or.inl ⟨by rfl, ?_⟩) (by assumption) ?_
          rotate_left
          · intro wk hSw
            try dsimp only at hSw
            have gk := (hSw.block _ (blk_lt GA.out)).trans GA.out
            have c0 := blk_cell (i := 0) gk rfl
            have c1 := blk_cell (i := 1) gk rfl
            have c2 := blk_cell (i := 2) gk rfl
            have c3 := blk_cell (i := 3) gk rfl
            have c4 := blk_cell (i := 4) gk rfl
            have c5 := blk_cell (i := 5) gk rfl
            go_simp
            try with_reducible rfl
          try simp only [Act.put, List.setIfInBounds_toArray, List.set_cons_zero, List.set_cons_succ]
          refine wpAnyH_take (i := 1) (oi := ⟨some 27, .load 50 (.tmp 3), _, _, _, none⟩) (v := ?_) rfl (by kernel_rfl) (by kernel_rfl) (by kernel_rfl) (fun _ _ _ h => h) (Or.inl ⟨by rfl, ?_⟩) (by assumption) ?_
          rotate_left
          · intro wk hSw
            try dsimp only at hSw
            have gk := (hSw.block _ (blk_lt GB.out)).trans GB.out
            have c0 := blk_cell (i := 0) gk rfl
            have c1 := blk_cell (i := 1) gk rfl
            have c2 := blk_cell (i := 2) gk rfl
            have c3 := blk_cell (i := 3) gk rfl
            have c4 := blk_cell (i := 4) gk rfl
            have c5 := blk_cell (i := 5) gk rfl
            go_simp
            try with_reducible rfl
          try simp only [Act.put, List.setIfInBounds_toArray, List.set_cons_zero, List.set_cons_succ]
          refine wpAnyH_take (i := 3) (oi := ⟨some 29, .load 50 (.tmp 2), _, _, _, none⟩) (v := ?_) rfl (by kernel_rfl) (by kernel_rfl) (by kernel_rfl) (fun _ _ _ h => h) (Or.inl ⟨by rfl, ?_⟩) (by assumption) ?_
          rotate_left
          · intro wk hSw
            try dsimp only at hSw
            have gk := (hSw.block _ (blk_lt GA.out)).trans GA.out
            have c0 := blk_cell (i := 0) gk rfl
            have c1 := blk_cell (i := 1) gk rfl
            have c2 := blk_cell (i := 2) gk rfl
            have c3 := blk_cell (i := 3) gk rfl
            have c4 := blk_cell (i := 4) gk rfl
            have c5 := blk_cell (i := 5) gk rfl
            go_simp
            try with_reducible rfl
          try simp only [Act.put, List.setIfInBounds_toArray, List.set_cons_zero, List.set_cons_succ]
          refine wpAnyH_take (i := 4) (oi := ⟨some 30, .load 50 (.tmp 3), _, _, _, none⟩) (v := ?_) rfl (by kernel_rfl) (by kernel_rfl) (by kernel_rfl) (fun _ _ _ h => h) (Or.inl ⟨by rfl, ?_⟩) (by assumption) ?_
          rotate_left
          · intro wk hSw
            try dsimp only at hSw
            have gk := (hSw.block _ (blk_lt GB.out)).trans GB.out
            have c0 := blk_cell (i := 0) gk rfl
            have c1 := blk_cell (i := 1) gk rfl
            have c2 := blk_cell (i := 2) gk rfl
            have c3 := blk_cell (i := 3) gk rfl
            have c4 := blk_cell (i := 4) gk rfl
            have c5 := blk_cell (i := 5) gk rfl
            go_simp
            try with_reducible rfl
          try simp only [Act.put, List.setIfInBounds_toArray, List.set_cons_zero, List.set_cons_succ]
          have HB := Kp.mk (gdrew1 W5)
          refine wpAnyH_ready (rs := [2]) (by kernel_rfl) (by simp) ?_
          refine AllReadyH.cons (o := ⟨some 28, _, _, _, _, none⟩) rfl (fun K hK => ?_) AllReadyH.nil
          go_simp
          (go_at_call 61; refine (H1.out _ (HW.out.trans (HB.out.mono HW.out.size))).mono ?_; rintro e wq1 ⟨v1, rfl, ho, hb⟩)
          have R1 := Kp.mk (rds_own ho)
          replace HB := Kp.mk (HB.out.trans (hb.mono HB.out.size))
          clear ho hb
          try go_wp2_with fail
          refine hK.out _ _ (HB.out) (fun hHeld2 => ?_)
          clear hK K
          try simp only [Act.put, List.setIfInBounds_toArray, List.set_cons_zero, List.set_cons_succ]
          refine wpAnyH_ready (rs := [5]) (by kernel_rfl) (by simp) ?_
          refine AllReadyH.cons (o := ⟨some 31, _, _, _, _, none⟩) rfl (fun K hK => ?_) AllReadyH.nil
          go_simp
          (go_at_call 62; refine (H2.out _ (HW.out.trans (HB.out.mono HW.out.size))).mono ?_; rintro e wq2 ⟨v2, rfl, ho, hb⟩)
          have R2 := Kp.mk (rds_own ho)
          replace R1 := Kp.mk (RdL.below R1.out hb)
          replace HB := Kp.mk (HB.out.trans (hb.mono HB.out.size))
          clear ho hb
          try go_wp2_with fail
          refine hK.out _ _ (HB.out) (fun hHeld2 => ?_)
          clear hK K
          try simp only [Act.put, List.setIfInBounds_toArray, List.set_cons_zero, List.set_cons_succ]
          refine wpAnyH_ready (rs := [6]) (by kernel_rfl) (by simp) ?_
          refine AllReadyH.cons (o := ⟨some 32, _, _, _, _, none⟩) rfl (fun K hK => ?_) AllReadyH.nil
          go_simp
          (go_at_call 52; refine (rssame_any _ _ L L _ R1.out R2.out HLL.out HLL.out).mono ?_; rintro e wq3 ⟨rfl, hb⟩)
          rw [HSM.out]
          replace HB := Kp.mk (HB.out.trans (hb.mono HB.out.size))
          clear hb
          try go_wp2_with fail
          refine hK.out _ _ (HB.out) (fun hHeld2 => ?_)
          clear hK K
          try simp only [Act.put, List.setIfInBounds_toArray, List.set_cons_zero, List.set_cons_succ]
          refine wpAnyH_take (i := 7) (oi := ⟨some 33, .move (.tmp 32), _, _, _, none⟩) (v := ?_) rfl (by kernel_rfl) (by kernel_rfl) (by kernel_rfl) (fun _ _ _ h => h) (Or.inl ⟨by rfl, ?_⟩) (by assumption) ?_
          rotate_left
          · intro wk hSw
            try dsimp only at hSw
            go_simp
            try with_reducible rfl
          try simp only [Act.put, List.setIfInBounds_toArray, List.set_cons_zero, List.set_cons_succ]
          refine wpAnyH_ready (rs := [8]) (by kernel_rfl) (by simp) ?_
          refine AllReadyH.cons (o := ⟨some 34, _, _, _, _, some (7, true)⟩) rfl (fun K hK => ?_) AllReadyH.nil
          go_simp
          (go_at_call 56; refine (lives51_any _).mono ?_; rintro e wq4 ⟨rfl, hb⟩)
          replace HB := Kp.mk (HB.out.trans (hb.mono HB.out.size))
          clear hb
          try go_wp2_with fail
          refine hK.out _ _ (HB.out) (fun hHeld2 => ?_)
          clear hK K
          try simp only [Act.put, List.setIfInBounds_toArray, List.set_cons_zero, List.set_cons_succ]
          refine wpAnyH_take (i := 9) (oi := ⟨some 35, .pick (.tmp 33) (.tmp 34) (.const (.bool false)), _, _, _, none⟩) (v := ?_) rfl (by kernel_rfl) (by kernel_rfl) (by kernel_rfl) (fun _ _ _ h => h) (Or.inl ⟨by rfl, ?_⟩) (by assumption) ?_
          rotate_left
          · intro wk hSw
            try dsimp only at hSw
            go_simp
            try with_reducible rfl
          try simp only [Act.put, List.setIfInBounds_toArray, List.set_cons_zero, List.set_cons_succ]
          refine wpAnyH_take (i := 10) (oi := ⟨some 4, .assign (.tmp 35), _, _, _, none⟩) (v := ?_) rfl (by kernel_rfl) (by kernel_rfl) (by kernel_rfl) (fun _ _ _ h => h) (Or.inl ⟨by rfl, ?_⟩) (by assumption) ?_
          rotate_left
          · intro wk hSw
            try dsimp only at hSw
            go_simp
            try with_reducible rfl
          try simp only [Act.put, List.setIfInBounds_toArray, List.set_cons_zero, List.set_cons_succ]
          refine wpAnyH_done (by kernel_rfl) ?_ _
          go_wp2_with fail
          go_ret
          exact ⟨rfl, HW.out.trans (HB.out.mono HW.out.size)⟩
        · have q2 : (12 : Int) < (l2.length : Int) := by omega
          go_enter Try.func12, Try.ntmps12
          go_wp2_with fail
          refine (SH1.out _ HW.out).mono ?_
          rintro e w1 ⟨rfl, hb⟩
          replace G1 := Kp.mk ((hb.block _ (blk_lt G1.out)).trans G1.out)
          replace G2 := Kp.mk ((hb.block _ (blk_lt G2.out)).trans G2.out)
          replace HW := Kp.mk (HW.out.trans (hb.mono HW.out.size))
          clear hb
          clear a0 a1 a2 a3 a4 a5 b0 b1 b2 b3 b4 b5
          have a0 := blk_cell (i := 0) G1.out rfl
          have a1 := blk_cell (i := 1) G1.out rfl
          have a2 := blk_cell (i := 2) G1.out rfl
          have a3 := blk_cell (i := 3) G1.out rfl
          have a4 := blk_cell (i := 4) G1.out rfl
          have a5 := blk_cell (i := 5) G1.out rfl
          have b0 := blk_cell (i := 0) G2.out rfl
          have b1 := blk_cell (i := 1) G2.out rfl
          have b2 := blk_cell (i := 2) G2.out rfl
          have b3 := blk_cell (i := 3) G2.out rfl
          have b4 := blk_cell (i := 4) G2.out rfl
          have b5 := blk_cell (i := 5) G2.out rfl
          go_wp2_with fail
          refine (SH2.out _ HW.out).mono ?_
          rintro e w2 ⟨rfl, hb⟩
          replace G1 := Kp.mk ((hb.block _ (blk_lt G1.out)).trans G1.out)
          replace G2 := Kp.mk ((hb.block _ (blk_lt G2.out)).trans G2.out)
          replace HW := Kp.mk (HW.out.trans (hb.mono HW.out.size))
          clear hb
          clear a0 a1 a2 a3 a4 a5 b0 b1 b2 b3 b4 b5
          have a0 := blk_cell (i := 0) G1.out rfl
          have a1 := blk_cell (i := 1) G1.out rfl
          have a2 := blk_cell (i := 2) G1.out rfl
          have a3 := blk_cell (i := 3) G1.out rfl
          have a4 := blk_cell (i := 4) G1.out rfl
          have a5 := blk_cell (i := 5) G1.out rfl
          have b0 := blk_cell (i := 0) G2.out rfl
          have b1 := blk_cell (i := 1) G2.out rfl
          have b2 := blk_cell (i := 2) G2.out rfl
          have b3 := blk_cell (i := 3) G2.out rfl
          have b4 := blk_cell (i := 4) G2.out rfl
          have b5 := blk_cell (i := 5) G2.out rfl
          go_wp2_with fail
          refine (lives51_any _).mono ?_
          rintro e w9 ⟨rfl, hb⟩
          replace HW := Kp.mk (HW.out.trans (hb.mono HW.out.size))
          go_wp2_with fail
          go_ret
          exact ⟨rfl, HW.out⟩
      · have q1 : (12 : Int) < (l1.length : Int) := by omega
        go_enter Try.func12, Try.ntmps12
        go_wp2_with fail
        refine (SH1.out _ HW.out).mono ?_
        rintro e w1 ⟨rfl, hb⟩
        replace G1 := Kp.mk ((hb.block _ (blk_lt G1.out)).trans G1.out)
        replace G2 := Kp.mk ((hb.block _ (blk_lt G2.out)).trans G2.out)
        replace HW := Kp.mk (HW.out.trans (hb.mono HW.out.size))
        clear hb
        clear a0 a1 a2 a3 a4 a5 b0 b1 b2 b3 b4 b5
        have a0 := blk_cell (i := 0) G1.out rfl
        have a1 := blk_cell (i := 1) G1.out rfl
        have a2 := blk_cell (i := 2) G1.out rfl
        have a3 := blk_cell (i := 3) G1.out rfl
        have a4 := blk_cell (i := 4) G1.out rfl
        have a5 := blk_cell (i := 5) G1.out rfl
        have b0 := blk_cell (i := 0) G2.out rfl
        have b1 := blk_cell (i := 1) G2.out rfl
        have b2 := blk_cell (i := 2) G2.out rfl
        have b3 := blk_cell (i := 3) G2.out rfl
        have b4 := blk_cell (i := 4) G2.out rfl
        have b5 := blk_cell (i := 5) G2.out rfl
        go_wp2_with fail
        refine (SH2.out _ HW.out).mono ?_
        rintro e w2 ⟨rfl, hb⟩
        replace G1 := Kp.mk ((hb.block _ (blk_lt G1.out)).trans G1.out)
        replace G2 := Kp.mk ((hb.block _ (blk_lt G2.out)).trans G2.out)
        replace HW := Kp.mk (HW.out.trans (hb.mono HW.out.size))
        clear hb
        clear a0 a1 a2 a3 a4 a5 b0 b1 b2 b3 b4 b5
        have a0 := blk_cell (i := 0) G1.out rfl
        have a1 := blk_cell (i := 1) G1.out rfl
        have a2 := blk_cell (i := 2) G1.out rfl
        have a3 := blk_cell (i := 3) G1.out rfl
        have a4 := blk_cell (i := 4) G1.out rfl
        have a5 := blk_cell (i := 5) G1.out rfl
        have b0 := blk_cell (i := 0) G2.out rfl
        have b1 := blk_cell (i := 1) G2.out rfl
        have b2 := blk_cell (i := 2) G2.out rfl
        have b3 := blk_cell (i := 3) G2.out rfl
        have b4 := blk_cell (i := 4) G2.out rfl
        have b5 := blk_cell (i := 5) G2.out rfl
        go_wp2_with fail
        refine (lives51_any _).mono ?_
        rintro e w9 ⟨rfl, hb⟩
        replace HW := Kp.mk (HW.out.trans (hb.mono HW.out.size))
        go_wp2_with fail
        go_ret
        exact ⟨rfl, HW.out⟩
theorem dh_arg (v0 v1 : Value) (w : World) (h0 : Arg Try.prog w 50 v0) (h1 : Arg Try.prog w 50 v1) :
    Calls Try.prog 12 #[v0, v1] w fun e w' => e = .returned (.bool true) ∧ Below w.heap.size w w' := by
  obtain ⟨m1, t1, i1, s1, r1, u1, l1, rfl, hv1, hz1, hm1, ht1, hr1, -, hi1⟩ := head_arg23 v0 w h0
  obtain ⟨m2, t2, i2, s2, r2, u2, l2, rfl, hv2, hz2, hm2, ht2, hr2, -, hi2⟩ := head_arg23 v1 w h1
  exact dh_walk m1 t1 i1 s1 r1 u1 l1 m2 t2 i2 s2 r2 u2 l2 w hv1 hz1 hm1 ht1 hr1 hi1 hv2 hz2 hm2 ht2 hr2 hi2
end Go.Proofs.Ytnpolkpofaamlaa
