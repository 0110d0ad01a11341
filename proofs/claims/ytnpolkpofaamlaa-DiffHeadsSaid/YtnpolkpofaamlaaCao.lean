/- How heads differ (layer 51): the document's Heads (bin/mkcao.py). -/
import Derived.Test.YtnpolkpofaamlaaCan
import Derived.Test.YtnpolkpofaamlaaCam
import Derived.Test.YtnpolkpofaamlaaDie
namespace Go.Proofs.Ytnpolkpofaamlaa
open Go.RowKit
set_option linter.unusedVariables false
set_option linter.unusedSimpArgs false

structure HQ (w : World) (A B : List ByteArray) (k : Nat) (ov dv : Value) (n : Nat) (wr : World) : Prop where
  o : wr.ownsRow (w.heap.size + 2) 9 1 ov (((dfL A B).take k).map hdT).length (svH (((dfL A B).take k).map hdT))
  d : wr.ownsRow (w.heap.size + 2) 100 2 dv n (drL (dfL A B))
  b : Below w.heap.size w wr
  z : w.heap.size + 2 ≤ wr.heap.size
set_option maxRecDepth 100000 in
set_option maxHeartbeats 2000000 in
theorem rheads_any (m1 t1 : ByteArray) (i1 s1 : Int) (r1 : ByteArray) (u1 : Value) (m2 t2 : ByteArray) (i2 s2 : Int) (r2 : ByteArray) (u2 : Value) (A B : List ByteArray) (w : World)
    (hA : ∀ W, Below w.heap.size w W → Calls Try.prog 96 #[.agg #[.string m1, .string t1, .int .i64 i1, .int .i64 s1, .string r1, u1]] W (RetS A W)) (hB : ∀ W, Below w.heap.size w W → Calls Try.prog 96 #[.agg #[.string m2, .string t2, .int .i64 i2, .int .i64 s2, .string r2, u2]] W (RetS B W))
    (hlA : A.length ≤ 100) (hlB : B.length ≤ 100) (hsA : ∀ s ∈ A, s.size ≤ 10000000) (hsB : ∀ s ∈ B, s.size ≤ 10000000) :
    Calls Try.prog 62 #[.agg #[.string m1, .string t1, .int .i64 i1, .int .i64 s1, .string r1, u1], .agg #[.string m2, .string t2, .int .i64 i2, .int .i64 s2, .string r2, u2]] w (RetS (hdL A B) w) := by
  have HLA := Kp.mk hA
  have HLB := Kp.mk hB
  have HSZ := Kp.mk (fun r (h : r ∈ dfL A B) => And.intro (dr_in h).1 (show r.2.size ≤ 10000000 from (dr_in h).2.elim (hsA _) (hsB _)))
  have HDL := Kp.mk (show (dfL A B).length ≤ 200 by have := dfL_len A B; omega)
  clear hA hB hsA hsB
  have q1 := heap_alloc_new w (.cells #[.string m1, .string t1, .int .i64 i1, .int .i64 s1, .string r1, u1] 50)
  have e1 : (w.alloc (.cells #[.string m1, .string t1, .int .i64 i1, .int .i64 s1, .string r1, u1] 50)).heap.size = w.heap.size + 1 := World.size_alloc _ _
  have q2 := heap_alloc_new (w.alloc (.cells #[.string m1, .string t1, .int .i64 i1, .int .i64 s1, .string r1, u1] 50)) (.cells #[.string m2, .string t2, .int .i64 i2, .int .i64 s2, .string r2, u2] 50)
  have e2 : ((w.alloc (.cells #[.string m1, .string t1, .int .i64 i1, .int .i64 s1, .string r1, u1] 50)).alloc (.cells #[.string m2, .string t2, .int .i64 i2, .int .i64 s2, .string r2, u2] 50)).heap.size = w.heap.size + 2 := by rw [World.size_alloc, e1]
  rw [e1] at q2
  have g1 := blk_alloc (o2 := .cells #[.string m2, .string t2, .int .i64 i2, .int .i64 s2, .string r2, u2] 50) q1
  have HW0 := Kp.mk (((Below.refl w.heap.size w).alloc (Nat.le_refl _) (.cells #[.string m1, .string t1, .int .i64 i1, .int .i64 s1, .string r1, u1] 50)).alloc (by rw [e1]; omega) (.cells #[.string m2, .string t2, .int .i64 i2, .int .i64 s2, .string r2, u2] 50))
  have a0 := blk_cell (i := 0) g1 rfl
  have a1 := blk_cell (i := 1) g1 rfl
  have a2 := blk_cell (i := 2) g1 rfl
  have a3 := blk_cell (i := 3) g1 rfl
  have a4 := blk_cell (i := 4) g1 rfl
  have a5 := blk_cell (i := 5) g1 rfl
  have b0 := blk_cell (i := 0) q2 rfl
  have b1 := blk_cell (i := 1) q2 rfl
  have b2 := blk_cell (i := 2) q2 rfl
  have b3 := blk_cell (i := 3) q2 rfl
  have b4 := blk_cell (i := 4) q2 rfl
  have b5 := blk_cell (i := 5) q2 rfl
  have ha : w.heap.size < w.heap.size + 2 := by omega
  have hb2 : w.heap.size + 1 < w.heap.size + 2 := by omega
  clear q1 q2 e1 g1
  go_enter Try.func62, Try.ntmps62
  go_upto_region 1 with fail
  generalize hW0 : (w.alloc (.cells #[.string m1, .string t1, .int .i64 i1, .int .i64 s1, .string r1, u1] 50)).alloc (.cells #[.string m2, .string t2, .int .i64 i2, .int .i64 s2, .string r2, u2] 50) = W0 at *
  have hsz : w.heap.size + 2 ≤ W0.heap.size := by omega
  clear e2 hW0
  have HZ := Kp.mk (fun (ov dv : Value) (n : Nat) (wx : World) (ho : wx.ownsRow (w.heap.size + 2) 9 1 ov 0 []) (hd : wx.ownsRow (w.heap.size + 2) 100 2 dv n (drL (dfL A B))) (hb : Below W0.heap.size W0 wx) => (HQ.mk ho hd (HW0.out.trans (hb.mono HW0.out.size)) (Nat.le_trans hsz hb.size) : HQ w A B 0 ov dv n wx))
  go_cut [5, 6] (fun dv ov wx => ∃ a c, dv = .slice a (dfL A B).length c ∧ (∃ g, ov = .slice (some ⟨g, 0, none⟩) 0 0) ∧ HQ w A B 0 ov dv (dfL A B).length wx)
  case first =>
    refine wp_region_held_drew (S := fun w' => Below (w.heap.size + 2) W0 w') (by kernel_rfl) (show Below (w.heap.size + 2) W0 W0.drew from ⟨rfl, rfl, rfl, Nat.le_refl _, fun _ _ => rfl⟩) (fun hHeld => ?_)
    refine wpAnyH_take (i := 0) (oi := ⟨some 8, .load 50 (.tmp 2), _, _, _, none⟩) (v := ?_) rfl (by kernel_rfl) (by kernel_rfl) (by kernel_rfl) (fun _ _ _ h => h) (Or.inl ⟨by rfl, ?_⟩) (by assumption) ?_
    rotate_left
    · intro wk hSw
      try dsimp only at hSw
      have c0 := (hSw.cell (p := ⟨w.heap.size, 0, none⟩) ha).trans a0
      have c1 := (hSw.cell (p := ⟨w.heap.size, 1, none⟩) ha).trans a1
      have c2 := (hSw.cell (p := ⟨w.heap.size, 2, none⟩) ha).trans a2
      have c3 := (hSw.cell (p := ⟨w.heap.size, 3, none⟩) ha).trans a3
      have c4 := (hSw.cell (p := ⟨w.heap.size, 4, none⟩) ha).trans a4
      have c5 := (hSw.cell (p := ⟨w.heap.size, 5, none⟩) ha).trans a5
      go_simp
      try with_reducible rfl
    try simp only [Act.put, List.setIfInBounds_toArray, List.set_cons_zero, List.set_cons_succ]
    refine wpAnyH_take (i := 2) (oi := ⟨some 10, .load 50 (.tmp 3), _, _, _, none⟩) (v := ?_) rfl (by kernel_rfl) (by kernel_rfl) (by kernel_rfl) (fun _ _ _ h => h) (Or.inl ⟨by rfl, ?_⟩) (by assumption) ?_
    rotate_left
    · intro wk hSw
      try dsimp only at hSw
      have c0 := (hSw.cell (p := ⟨w.heap.size + 1, 0, none⟩) hb2).trans b0
      have c1 := (hSw.cell (p := ⟨w.heap.size + 1, 1, none⟩) hb2).trans b1
      have c2 := (hSw.cell (p := ⟨w.heap.size + 1, 2, none⟩) hb2).trans b2
      have c3 := (hSw.cell (p := ⟨w.heap.size + 1, 3, none⟩) hb2).trans b3
      have c4 := (hSw.cell (p := ⟨w.heap.size + 1, 4, none⟩) hb2).trans b4
      have c5 := (hSw.cell (p := ⟨w.heap.size + 1, 5, none⟩) hb2).trans b5
      go_simp
      try with_reducible rfl
    try simp only [Act.put, List.setIfInBounds_toArray, List.set_cons_zero, List.set_cons_succ]
    have HB := Kp.mk (gdrew1 W0)
    refine wpAnyH_ready (rs := [1, 5]) (by kernel_rfl) (by simp) ?_
    refine AllReadyH.cons (o := ⟨some 9, _, _, _, _, none⟩) rfl (fun K hK => ?_) (AllReadyH.cons (o := ⟨some 13, _, _, _, _, none⟩) rfl (fun K hK => ?_) AllReadyH.nil)
    · go_simp
      (go_at_call 96; refine (HLA.out _ (HW0.out.trans (HB.out.mono HW0.out.size))).mono ?_; rintro e wq0 ⟨v0, rfl, ho, hb⟩)
      have R1 := Kp.mk (rds_own ho)
      replace HB := Kp.mk (HB.out.trans (hb.mono HB.out.size))
      clear ho hb
      try go_wp2_with fail
      refine hK.out _ _ (HB.out.mono hsz) (fun hHeld2 => ?_)
      clear hK K
      try simp only [Act.put, List.setIfInBounds_toArray, List.set_cons_zero, List.set_cons_succ]
      refine wpAnyH_ready (rs := [3, 5]) (by kernel_rfl) (by simp) ?_
      refine AllReadyH.cons (o := ⟨some 11, _, _, _, _, none⟩) rfl (fun K hK => ?_) (AllReadyH.cons (o := ⟨some 13, _, _, _, _, none⟩) rfl (fun K hK => ?_) AllReadyH.nil)
      · go_simp
        (go_at_call 96; refine (HLB.out _ (HW0.out.trans (HB.out.mono HW0.out.size))).mono ?_; rintro e wq1 ⟨v1, rfl, ho, hb⟩)
        have R2 := Kp.mk (rds_own ho)
        replace R1 := Kp.mk (RdL.below R1.out hb)
        replace HB := Kp.mk (HB.out.trans (hb.mono HB.out.size))
        clear ho hb
        try go_wp2_with fail
        refine hK.out _ _ (HB.out.mono hsz) (fun hHeld2 => ?_)
        clear hK K
        try simp only [Act.put, List.setIfInBounds_toArray, List.set_cons_zero, List.set_cons_succ]
        refine wpAnyH_ready (rs := [4, 5]) (by kernel_rfl) (by simp) ?_
        refine AllReadyH.cons (o := ⟨some 12, _, _, _, _, none⟩) rfl (fun K hK => ?_) (AllReadyH.cons (o := ⟨some 13, _, _, _, _, none⟩) rfl (fun K hK => ?_) AllReadyH.nil)
        · go_simp
          (go_at_call 59; refine (rlines_any _ _ A B _ R1.out R2.out hlA hlB).mono ?_; rintro e wq2 ⟨v2, rfl, ho, hb⟩)
          have DV := Kp.mk (own_upC ho (Nat.le_trans hsz HB.out.size))
          obtain ⟨a3, c3, rfl⟩ := own_lenH ho
          replace HB := Kp.mk (HB.out.trans (hb.mono HB.out.size))
          clear ho hb
          try go_wp2_with fail
          refine hK.out _ _ (HB.out.mono hsz) (fun hHeld2 => ?_)
          clear hK K
          try simp only [Act.put, List.setIfInBounds_toArray, List.set_cons_zero, List.set_cons_succ]
          refine wpAnyH_take (i := 6) (oi := ⟨some 5, .assign (.tmp 12), _, _, _, none⟩) (v := ?_) rfl (by kernel_rfl) (by kernel_rfl) (by kernel_rfl) (fun _ _ _ h => h) (Or.inl ⟨by rfl, ?_⟩) (by assumption) ?_
          rotate_left
          · intro wk hSw
            try dsimp only at hSw
            go_simp
            try with_reducible rfl
          try simp only [Act.put, List.setIfInBounds_toArray, List.set_cons_zero, List.set_cons_succ]
          refine wpAnyH_ready (rs := [5]) (by kernel_rfl) (by simp) ?_
          refine AllReadyH.cons (o := ⟨some 13, _, _, _, _, none⟩) rfl (fun K hK => ?_) AllReadyH.nil
          go_simp
          have hb := (Below.refl (wq2).heap.size (wq2)).alloc (Nat.le_refl _) (.cells #[] 9)
          have OW := Kp.mk (show ((wq2).alloc (.cells #[] 9)).ownsRow (w.heap.size + 2) 9 1 (.slice (some ⟨(wq2).heap.size, 0, none⟩) 0 0) 0 [] from World.ownsRow_made _ _ 0 (Nat.le_trans hsz HB.out.size) (by unfold maxLen; omega) rfl)
          replace DV := Kp.mk (own_bel DV.out hb)
          replace HB := Kp.mk (HB.out.trans (hb.mono HB.out.size))
          clear hb
          refine hK.out _ _ (HB.out.mono hsz) (fun hHeld2 => ?_)
          clear hK K
          try simp only [Act.put, List.setIfInBounds_toArray, List.set_cons_zero, List.set_cons_succ]
          refine wpAnyH_take (i := 7) (oi := ⟨some 6, .assign (.tmp 13), _, _, _, none⟩) (v := ?_) rfl (by kernel_rfl) (by kernel_rfl) (by kernel_rfl) (fun _ _ _ h => h) (Or.inl ⟨by rfl, ?_⟩) (by assumption) ?_
          rotate_left
          · intro wk hSw
            try dsimp only at hSw
            go_simp
            try with_reducible rfl
          try simp only [Act.put, List.setIfInBounds_toArray, List.set_cons_zero, List.set_cons_succ]
          refine wpAnyH_done (by kernel_rfl) ?_ _
          go_wp2_with fail
          go_meet
          exact ⟨_, _, rfl, ⟨_, rfl⟩, HZ.out _ _ _ _ OW.out DV.out HB.out⟩
        · go_simp
          have hb := (Below.refl (wq1).heap.size (wq1)).alloc (Nat.le_refl _) (.cells #[] 9)
          have OW := Kp.mk (show ((wq1).alloc (.cells #[] 9)).ownsRow (w.heap.size + 2) 9 1 (.slice (some ⟨(wq1).heap.size, 0, none⟩) 0 0) 0 [] from World.ownsRow_made _ _ 0 (Nat.le_trans hsz HB.out.size) (by unfold maxLen; omega) rfl)
          replace R1 := Kp.mk (RdL.below R1.out hb)
          replace R2 := Kp.mk (RdL.below R2.out hb)
          replace HB := Kp.mk (HB.out.trans (hb.mono HB.out.size))
          clear hb
          refine hK.out _ _ (HB.out.mono hsz) (fun hHeld2 => ?_)
          clear hK K
          try simp only [Act.put, List.setIfInBounds_toArray, List.set_cons_zero, List.set_cons_succ]
          refine wpAnyH_ready (rs := [4]) (by kernel_rfl) (by simp) ?_
          refine AllReadyH.cons (o := ⟨some 12, _, _, _, _, none⟩) rfl (fun K hK => ?_) AllReadyH.nil
          go_simp
          (go_at_call 59; refine (rlines_any _ _ A B _ R1.out R2.out hlA hlB).mono ?_; rintro e wq2 ⟨v2, rfl, ho, hb⟩)
          have DV := Kp.mk (own_upC ho (Nat.le_trans hsz HB.out.size))
          obtain ⟨a3, c3, rfl⟩ := own_lenH ho
          replace OW := Kp.mk (own_bel OW.out hb)
          replace HB := Kp.mk (HB.out.trans (hb.mono HB.out.size))
          clear ho hb
          try go_wp2_with fail
          refine hK.out _ _ (HB.out.mono hsz) (fun hHeld2 => ?_)
          clear hK K
          try simp only [Act.put, List.setIfInBounds_toArray, List.set_cons_zero, List.set_cons_succ]
          refine wpAnyH_take (i := 6) (oi := ⟨some 5, .assign (.tmp 12), _, _, _, none⟩) (v := ?_) rfl (by kernel_rfl) (by kernel_rfl) (by kernel_rfl) (fun _ _ _ h => h) (Or.inl ⟨by rfl, ?_⟩) (by assumption) ?_
          rotate_left
          · intro wk hSw
            try dsimp only at hSw
            go_simp
            try with_reducible rfl
          try simp only [Act.put, List.setIfInBounds_toArray, List.set_cons_zero, List.set_cons_succ]
          refine wpAnyH_take (i := 7) (oi := ⟨some 6, .assign (.tmp 13), _, _, _, none⟩) (v := ?_) rfl (by kernel_rfl) (by kernel_rfl) (by kernel_rfl) (fun _ _ _ h => h) (Or.inl ⟨by rfl, ?_⟩) (by assumption) ?_
          rotate_left
          · intro wk hSw
            try dsimp only at hSw
            go_simp
            try with_reducible rfl
          try simp only [Act.put, List.setIfInBounds_toArray, List.set_cons_zero, List.set_cons_succ]
          refine wpAnyH_done (by kernel_rfl) ?_ _
          go_wp2_with fail
          go_meet
          exact ⟨_, _, rfl, ⟨_, rfl⟩, HZ.out _ _ _ _ OW.out DV.out HB.out⟩
      · go_simp
        have hb := (Below.refl (wq0).heap.size (wq0)).alloc (Nat.le_refl _) (.cells #[] 9)
        have OW := Kp.mk (show ((wq0).alloc (.cells #[] 9)).ownsRow (w.heap.size + 2) 9 1 (.slice (some ⟨(wq0).heap.size, 0, none⟩) 0 0) 0 [] from World.ownsRow_made _ _ 0 (Nat.le_trans hsz HB.out.size) (by unfold maxLen; omega) rfl)
        replace R1 := Kp.mk (RdL.below R1.out hb)
        replace HB := Kp.mk (HB.out.trans (hb.mono HB.out.size))
        clear hb
        refine hK.out _ _ (HB.out.mono hsz) (fun hHeld2 => ?_)
        clear hK K
        try simp only [Act.put, List.setIfInBounds_toArray, List.set_cons_zero, List.set_cons_succ]
        refine wpAnyH_ready (rs := [3]) (by kernel_rfl) (by simp) ?_
        refine AllReadyH.cons (o := ⟨some 11, _, _, _, _, none⟩) rfl (fun K hK => ?_) AllReadyH.nil
        go_simp
        (go_at_call 96; refine (HLB.out _ (HW0.out.trans (HB.out.mono HW0.out.size))).mono ?_; rintro e wq1 ⟨v1, rfl, ho, hb⟩)
        have R2 := Kp.mk (rds_own ho)
        replace R1 := Kp.mk (RdL.below R1.out hb)
        replace OW := Kp.mk (own_bel OW.out hb)
        replace HB := Kp.mk (HB.out.trans (hb.mono HB.out.size))
        clear ho hb
        try go_wp2_with fail
        refine hK.out _ _ (HB.out.mono hsz) (fun hHeld2 => ?_)
        clear hK K
        try simp only [Act.put, List.setIfInBounds_toArray, List.set_cons_zero, List.set_cons_succ]
        refine wpAnyH_ready (rs := [4]) (by kernel_rfl) (by simp) ?_
        refine AllReadyH.cons (o := ⟨some 12, _, _, _, _, none⟩) rfl (fun K hK => ?_) AllReadyH.nil
        go_simp
        (go_at_call 59; refine (rlines_any _ _ A B _ R1.out R2.out hlA hlB).mono ?_; rintro e wq2 ⟨v2, rfl, ho, hb⟩)
        have DV := Kp.mk (own_upC ho (Nat.le_trans hsz HB.out.size))
        obtain ⟨a3, c3, rfl⟩ := own_lenH ho
        replace OW := Kp.mk (own_bel OW.out hb)
        replace HB := Kp.mk (HB.out.trans (hb.mono HB.out.size))
        clear ho hb
        try go_wp2_with fail
        refine hK.out _ _ (HB.out.mono hsz) (fun hHeld2 => ?_)
        clear hK K
        try simp only [Act.put, List.setIfInBounds_toArray, List.set_cons_zero, List.set_cons_succ]
        refine wpAnyH_take (i := 6) (oi := ⟨some 5, .assign (.tmp 12), _, _, _, none⟩) (v := ?_) rfl (by kernel_rfl) (by kernel_rfl) (by kernel_rfl) (fun _ _ _ h => h) (Or.inl ⟨by rfl, ?_⟩) (by assumption) ?_
        rotate_left
        · intro wk hSw
          try dsimp only at hSw
          go_simp
          try with_reducible rfl
        try simp only [Act.put, List.setIfInBounds_toArray, List.set_cons_zero, List.set_cons_succ]
        refine wpAnyH_take (i := 7) (oi := ⟨some 6, .assign (.tmp 13), _, _, _, none⟩) (v := ?_) rfl (by kernel_rfl) (by kernel_rfl) (by kernel_rfl) (fun _ _ _ h => h) (Or.inl ⟨by rfl, ?_⟩) (by assumption) ?_
        rotate_left
        · intro wk hSw
          try dsimp only at hSw
          go_simp
          try with_reducible rfl
        try simp only [Act.put, List.setIfInBounds_toArray, List.set_cons_zero, List.set_cons_succ]
        refine wpAnyH_done (by kernel_rfl) ?_ _
        go_wp2_with fail
        go_meet
        exact ⟨_, _, rfl, ⟨_, rfl⟩, HZ.out _ _ _ _ OW.out DV.out HB.out⟩
    · go_simp
      have hb := (Below.refl (W0.drew).heap.size (W0.drew)).alloc (Nat.le_refl _) (.cells #[] 9)
      have OW := Kp.mk (show ((W0.drew).alloc (.cells #[] 9)).ownsRow (w.heap.size + 2) 9 1 (.slice (some ⟨(W0.drew).heap.size, 0, none⟩) 0 0) 0 [] from World.ownsRow_made _ _ 0 (Nat.le_trans hsz HB.out.size) (by unfold maxLen; omega) rfl)
      replace HB := Kp.mk (HB.out.trans (hb.mono HB.out.size))
      clear hb
      refine hK.out _ _ (HB.out.mono hsz) (fun hHeld2 => ?_)
      clear hK K
      try simp only [Act.put, List.setIfInBounds_toArray, List.set_cons_zero, List.set_cons_succ]
      refine wpAnyH_ready (rs := [1]) (by kernel_rfl) (by simp) ?_
      refine AllReadyH.cons (o := ⟨some 9, _, _, _, _, none⟩) rfl (fun K hK => ?_) AllReadyH.nil
      go_simp
      (go_at_call 96; refine (HLA.out _ (HW0.out.trans (HB.out.mono HW0.out.size))).mono ?_; rintro e wq0 ⟨v0, rfl, ho, hb⟩)
      have R1 := Kp.mk (rds_own ho)
      replace OW := Kp.mk (own_bel OW.out hb)
      replace HB := Kp.mk (HB.out.trans (hb.mono HB.out.size))
      clear ho hb
      try go_wp2_with fail
      refine hK.out _ _ (HB.out.mono hsz) (fun hHeld2 => ?_)
      clear hK K
      try simp only [Act.put, List.setIfInBounds_toArray, List.set_cons_zero, List.set_cons_succ]
      refine wpAnyH_ready (rs := [3]) (by kernel_rfl) (by simp) ?_
      refine AllReadyH.cons (o := ⟨some 11, _, _, _, _, none⟩) rfl (fun K hK => ?_) AllReadyH.nil
      go_simp
      (go_at_call 96; refine (HLB.out _ (HW0.out.trans (HB.out.mono HW0.out.size))).mono ?_; rintro e wq1 ⟨v1, rfl, ho, hb⟩)
      have R2 := Kp.mk (rds_own ho)
      replace R1 := Kp.mk (RdL.below R1.out hb)
      replace OW := Kp.mk (own_bel OW.out hb)
      replace HB := Kp.mk (HB.out.trans (hb.mono HB.out.size))
      clear ho hb
      try go_wp2_with fail
      refine hK.out _ _ (HB.out.mono hsz) (fun hHeld2 => ?_)
      clear hK K
      try simp only [Act.put, List.setIfInBounds_toArray, List.set_cons_zero, List.set_cons_succ]
      refine wpAnyH_ready (rs := [4]) (by kernel_rfl) (by simp) ?_
      refine AllReadyH.cons (o := ⟨some 12, _, _, _, _, none⟩) rfl (fun K hK => ?_) AllReadyH.nil
      go_simp
      (go_at_call 59; refine (rlines_any _ _ A B _ R1.out R2.out hlA hlB).mono ?_; rintro e wq2 ⟨v2, rfl, ho, hb⟩)
      have DV := Kp.mk (own_upC ho (Nat.le_trans hsz HB.out.size))
      obtain ⟨a3, c3, rfl⟩ := own_lenH ho
      replace OW := Kp.mk (own_bel OW.out hb)
      replace HB := Kp.mk (HB.out.trans (hb.mono HB.out.size))
      clear ho hb
      try go_wp2_with fail
      refine hK.out _ _ (HB.out.mono hsz) (fun hHeld2 => ?_)
      clear hK K
      try simp only [Act.put, List.setIfInBounds_toArray, List.set_cons_zero, List.set_cons_succ]
      refine wpAnyH_take (i := 6) (oi := ⟨some 5, .assign (.tmp 12), _, _, _, none⟩) (v := ?_) rfl (by kernel_rfl) (by kernel_rfl) (by kernel_rfl) (fun _ _ _ h => h) (Or.inl ⟨by rfl, ?_⟩) (by assumption) ?_
      rotate_left
      · intro wk hSw
        try dsimp only at hSw
        go_simp
        try with_reducible rfl
      try simp only [Act.put, List.setIfInBounds_toArray, List.set_cons_zero, List.set_cons_succ]
      refine wpAnyH_take (i := 7) (oi := ⟨some 6, .assign (.tmp 13), _, _, _, none⟩) (v := ?_) rfl (by kernel_rfl) (by kernel_rfl) (by kernel_rfl) (fun _ _ _ h => h) (Or.inl ⟨by rfl, ?_⟩) (by assumption) ?_
      rotate_left
      · intro wk hSw
        try dsimp only at hSw
        go_simp
        try with_reducible rfl
      try simp only [Act.put, List.setIfInBounds_toArray, List.set_cons_zero, List.set_cons_succ]
      refine wpAnyH_done (by kernel_rfl) ?_ _
      go_wp2_with fail
      go_meet
      exact ⟨_, _, rfl, ⟨_, rfl⟩, HZ.out _ _ _ _ OW.out DV.out HB.out⟩
  case rest =>
    obtain ⟨a9, c9, rfl, ⟨g9, rfl⟩, hH⟩ := hcut
    have HI := Kp.mk hH
    clear hH HZ a0 a1 a2 a3 a4 a5 b0 b1 b2 b3 b4 b5 HLA HLB
    generalize hn : (dfL A B).length = n at *
    have HN := Kp.mk hn
    clear hn
    have hn2 : n ≤ 200 := HDL.out
    go_wp2_with fail
    go_loopw [6, 7] (fun ov i wr => ∃ k : Nat, k ≤ n ∧ i = .int .i64 k ∧ HQ w A B k ov (.slice a9 n c9) n wr) (fun _ i _ => n - (intOf i).toNat)
    case atStart => exact ⟨0, Nat.zero_le _, rfl, HI.out⟩
    case round =>
      obtain ⟨k, hk, rfl, hH⟩ := hrel
      have HJ := Kp.mk hH
      obtain ⟨ao, co, rfl⟩ := own_lenH hH.o
      clear hH
      by_cases hlt : k < n
      · have hkl : k < (dfL A B).length := by have := HN.out; omega
        have hrd : RdDr wr (.slice a9 n c9) (dfL A B) := rddr_own (e := 100) (by rw [HN.out]; exact HJ.out.d)
        obtain ⟨g, o, rfl, hgl, d⟩ := rddr_cells hrd (by omega)
        obtain ⟨c1, c2⟩ := d k hkl
        obtain ⟨hsg, hys⟩ := HSZ.out _ (List.getElem_mem hkl)
        have HYS := Kp.mk hys
        have HST := Kp.mk (show ((dfL A B).take (k + 1)).map hdT = ((dfL A B).take k).map hdT ++ [hdT (dfL A B)[k]] by rw [List.take_succ_eq_append_getElem hkl, List.map_append]; rfl)
        have hal : (((dfL A B).take k).map hdT).length ≤ 200 := by rw [List.length_map, List.length_take]; omega
        have r1 : (k : Int) < (n : Int) := by omega
        have r0 : (0 : Int) ≤ (k : Int) := by omega
        clear d hrd hys
        generalize (dfL A B)[k] = f at *
        obtain ⟨sg, y⟩ := f
        dsimp only at c1 c2 hsg HYS
        have HOW := Kp.mk HJ.out.o
        generalize hacc : ((dfL A B).take k).map hdT = acc at *
        clear hacc
        have lenC : (acc.length + 1) * 16 ≤ 140737488355328 := by omega
        have lenD : acc.length + 1 ≤ maxLen := by unfold maxLen; omega
        have hsz3 := HJ.out.z
        have HNX := Kp.mk (fun (g' cap' : Nat) (w6 : World) (x : ByteArray) (h1 : w6.ownsRow (w.heap.size + 2) 9 1 (.slice (some ⟨g', 0, none⟩) (acc.length + 1) cap') (acc.length + 1) (svH acc ++ [.string (sgT sg ++ y)])) (h2 : (wr.alloc (.cells #[.string x] 9)).grownBy w6 (Value.slice ao acc.length co).ownBlock) =>
          (show HQ w A B (k + 1) (.slice (some ⟨g', 0, none⟩) (acc.length + 1) cap') (.slice (some ⟨g, o, none⟩) n c9) n w6 from
            ⟨by rw [HST.out, List.length_append, svH_snoc]; exact h1,
             own_kC HJ.out.d fun j hj hb => (h2.block j (by rw [World.size_alloc]; exact Nat.lt_succ_of_lt hj) (fun e => own_type_ne HOW.out HJ.out.d (by decide) j e.symm hb)).trans (Below.heap_alloc _ _ j hj),
             HJ.out.b.trans ((grown_bel HOW.out HJ.out.z h2).mono (by omega)), Nat.le_trans HJ.out.z (grown_bel HOW.out HJ.out.z h2).size⟩))
        clear hkl
        rcases hsg with rfl | rfl | rfl
        · have hsx : ¬ 9223372036854775807 < 2 + y.size := by have := HYS.out; omega
          go_wp2_with (at_builtin; refine app_any rfl _ _ _ _ rfl Try.underlying84 _ _ _ Try.infoSH rfl (by omega) (w.heap.size + 2) _ _ _ rfl HOW.out #[.string ((⟨#[32, 32]⟩ : ByteArray) ++ y)] rfl (fun u hu => by simp at hu; subst hu; rfl) _ rfl rfl lenC lenD hsz3 ?_; intro g' cap' w' h1 h2 h3; have H1 := Kp.mk h1; have H2 := Kp.mk h2; clear h1 h2 h3)
          go_roundw
          case rel => exact ⟨k + 1, by omega, by go_num, HNX.out _ _ _ _ H1.out H2.out⟩
          case measure => simp [intOf] <;> omega
        · have hsx : ¬ 9223372036854775807 < 2 + y.size := by have := HYS.out; omega
          go_wp2_with (at_builtin; refine app_any rfl _ _ _ _ rfl Try.underlying84 _ _ _ Try.infoSH rfl (by omega) (w.heap.size + 2) _ _ _ rfl HOW.out #[.string ((⟨#[45, 32]⟩ : ByteArray) ++ y)] rfl (fun u hu => by simp at hu; subst hu; rfl) _ rfl rfl lenC lenD hsz3 ?_; intro g' cap' w' h1 h2 h3; have H1 := Kp.mk h1; have H2 := Kp.mk h2; clear h1 h2 h3)
          go_roundw
          case rel => exact ⟨k + 1, by omega, by go_num, HNX.out _ _ _ _ H1.out H2.out⟩
          case measure => simp [intOf] <;> omega
        · have hsx : ¬ 9223372036854775807 < 2 + y.size := by have := HYS.out; omega
          go_wp2_with (at_builtin; refine app_any rfl _ _ _ _ rfl Try.underlying84 _ _ _ Try.infoSH rfl (by omega) (w.heap.size + 2) _ _ _ rfl HOW.out #[.string ((⟨#[43, 32]⟩ : ByteArray) ++ y)] rfl (fun u hu => by simp at hu; subst hu; rfl) _ rfl rfl lenC lenD hsz3 ?_; intro g' cap' w' h1 h2 h3; have H1 := Kp.mk h1; have H2 := Kp.mk h2; clear h1 h2 h3)
          go_roundw
          case rel => exact ⟨k + 1, by omega, by go_num, HNX.out _ _ _ _ H1.out H2.out⟩
          case measure => simp [intOf] <;> omega
      · have hkn : k = n := by omega
        subst hkn
        have HTK := Kp.mk (show (dfL A B).take k = dfL A B from List.take_of_length_le (by have := HN.out; omega))
        go_wp2_with fail
        go_ret
        refine ⟨_, rfl, ?_, HJ.out.b⟩
        have h9 := HJ.out.o
        rw [HTK.out] at h9
        rw [show hdL A B = (dfL A B).map hdT from rfl]
        rw [HTK.out]
        exact own_upC h9 (by omega)
end Go.Proofs.Ytnpolkpofaamlaa
