/- How bodies go out (layer 36): the law PlanFits. -/
import Derived.Test.YtgkbaijnbohjdaaPlan
import Derived.Test.YtgkbaijnbohjdaaGb
import Derived.Deep.RegionHeld3
import Derived.Deep.MidRow
namespace Go.Proofs.Ytgkbaijnbohjdaa
open Go.RowKit
set_option linter.unusedVariables false
set_option linter.unusedSimpArgs false

def BoxS (B : Nat) (kind len : Int) (n0 n1 : ByteArray) (cm st c4 c5 ck c7 c8 c9 c10 c11 c12 l0 l1 l2 l3 l4 : Int) (w' : World) : Prop := (w'.cell? ⟨B, 0, none⟩ = some (.int .i64 kind) ∧ w'.cell? ⟨B, 1, none⟩ = some (.int .i64 len)) ∧ w'.rangeAt (B + 1) 0 [.string n0, .string n1, .int .i64 cm, .int .i64 st, .int .i64 c4, .int .i64 c5, .int .i64 ck, .int .i64 c7, .int .i64 c8, .int .i64 c9, .int .i64 c10, .int .i64 c11, .int .i64 c12, .int .i64 l0, .int .i64 l1, .int .i64 l2, .int .i64 l3, .int .i64 l4]
theorem keep20 {W w1 : World} {B : Nat} {kind len : Int} {n0 n1 : ByteArray} {cm st c4 c5 ck c7 c8 c9 c10 c11 c12 l0 l1 l2 l3 l4 : Int} (hb : Below W.heap.size W w1) (hB : B + 1 < W.heap.size) (h : BoxS B kind len n0 n1 cm st c4 c5 ck c7 c8 c9 c10 c11 c12 l0 l1 l2 l3 l4 W) : BoxS B kind len n0 n1 cm st c4 c5 ck c7 c8 c9 c10 c11 c12 l0 l1 l2 l3 l4 w1 := by
  have hc := (bcell hb).1
  unfold BoxS at *
  exact ⟨⟨(hc B _ (by omega)).trans h.1.1, (hc B _ (by omega)).trans h.1.2⟩, fun j v hj => (hc (B + 1) _ hB).trans (h.2 j v hj)⟩
theorem boxs_new (w : World) (kind len : Int) (n0 n1 : ByteArray) (cm st c4 c5 ck c7 c8 c9 c10 c11 c12 l0 l1 l2 l3 l4 : Int) : BoxS w.heap.size kind len n0 n1 cm st c4 c5 ck c7 c8 c9 c10 c11 c12 l0 l1 l2 l3 l4 ((w.alloc (.cells #[.int .i64 kind, .int .i64 len] 23)).alloc (.cells #[.string n0, .string n1, .int .i64 cm, .int .i64 st, .int .i64 c4, .int .i64 c5, .int .i64 ck, .int .i64 c7, .int .i64 c8, .int .i64 c9, .int .i64 c10, .int .i64 c11, .int .i64 c12, .int .i64 l0, .int .i64 l1, .int .i64 l2, .int .i64 l3, .int .i64 l4] 27)) := by
  have e1 : (w.alloc (.cells #[.int .i64 kind, .int .i64 len] 23)).heap.size = w.heap.size + 1 := World.size_alloc _ _
  have k2 := heap_alloc_new (w.alloc (.cells #[.int .i64 kind, .int .i64 len] 23)) (.cells #[.string n0, .string n1, .int .i64 cm, .int .i64 st, .int .i64 c4, .int .i64 c5, .int .i64 ck, .int .i64 c7, .int .i64 c8, .int .i64 c9, .int .i64 c10, .int .i64 c11, .int .i64 c12, .int .i64 l0, .int .i64 l1, .int .i64 l2, .int .i64 l3, .int .i64 l4] 27)
  rw [e1] at k2
  have k1 := blk_alloc (o2 := .cells #[.string n0, .string n1, .int .i64 cm, .int .i64 st, .int .i64 c4, .int .i64 c5, .int .i64 ck, .int .i64 c7, .int .i64 c8, .int .i64 c9, .int .i64 c10, .int .i64 c11, .int .i64 c12, .int .i64 l0, .int .i64 l1, .int .i64 l2, .int .i64 l3, .int .i64 l4] 27) (heap_alloc_new w (.cells #[.int .i64 kind, .int .i64 len] 23))
  unfold BoxS
  exact ⟨⟨blk_cell k1 rfl, blk_cell k1 rfl⟩, fun j v hj => by rw [Nat.zero_add]; exact blk_cell k2 (by simpa using hj)⟩
theorem pl_put4 {w : World} {b : Nat} {c0 c1 c2 c3 : Value} {t : TypeId} (h : w.heap[b]? = some (.cells #[c0, c1, c2, c3] t (0, 0))) (v0 v1 v2 v3 : Value) :
    ((((w.setCell ⟨b, 0, none⟩ v0).setCell ⟨b, 1, none⟩ v1).setCell ⟨b, 2, none⟩ v2).setCell ⟨b, 3, none⟩ v3).heap[b]? = some (.cells #[v0, v1, v2, v3] t (0, 0)) :=
  (blk_set (blk_set (blk_set (blk_set h _) _) _) _).trans rfl
theorem pl_put4o {w : World} {b k : Nat} {o : Obj} (h : w.heap[k]? = some o) (hk : k ≠ b) (v0 v1 v2 v3 : Value) :
    ((((w.setCell ⟨b, 0, none⟩ v0).setCell ⟨b, 1, none⟩ v1).setCell ⟨b, 2, none⟩ v2).setCell ⟨b, 3, none⟩ v3).heap[k]? = some o :=
  blk_set_other (blk_set_other (blk_set_other (blk_set_other h hk _) hk _) hk _) hk _
theorem pl_put4b {B b : Nat} {w W : World} (h : Below B w W) (hb : B ≤ b) (v0 v1 v2 v3 : Value) : Below B w ((((W.setCell ⟨b, 0, none⟩ v0).setCell ⟨b, 1, none⟩ v1).setCell ⟨b, 2, none⟩ v2).setCell ⟨b, 3, none⟩ v3) :=
  (((h.setCell hb _).setCell hb _).setCell hb _).setCell hb _
set_option maxRecDepth 100000 in
set_option maxHeartbeats 4000000 in
theorem lives36 (w : World) : Calls Try.prog 8 #[] w fun e w' => e = .returned (.bool true) ∧ Below w.heap.size w w' := by
  have HR := Kp.mk (fun w => response_any 3 0 1 ⟨#[]⟩ ⟨#[]⟩ 0 0 0 0 7 0 0 0 0 0 0 0 0 0 0 0 2 0 false 7 (.inr (.inr (.inr (.inl ⟨rfl, by omega, rfl, rfl, rfl, rfl⟩)))) w)
  go_enter Try.func8, Try.ntmps8
  go_wp2_with fail
  refine (HR.out _).mono ?_
  rintro e w1 ⟨rfl, hb⟩
  go_wp2_with fail
  go_ret
  exact ⟨rfl, hb⟩
set_option maxRecDepth 100000 in
set_option maxHeartbeats 40000000 in
theorem fits_core (kind len minor : Int) (n0 n1 : ByteArray) (cm st c4 c5 ck c7 c8 c9 c10 c11 c12 l0 l1 l2 l3 l4 : Int) (k l : Int) (kp : Bool) (k2 l2' : Int) (kp2 : Bool) (chk : Int) (hq : ReqRel kind len cm k l kp) (hp : RespRel kind len minor st ck k2 l2' kp2 chk) (w : World) :
    Calls Try.prog 3 #[.agg #[.int .i64 kind, .int .i64 len], .int .i64 minor, .agg #[.string n0, .string n1, .int .i64 cm, .int .i64 st, .int .i64 c4, .int .i64 c5, .int .i64 ck, .int .i64 c7, .int .i64 c8, .int .i64 c9, .int .i64 c10, .int .i64 c11, .int .i64 c12, .int .i64 l0, .int .i64 l1, .int .i64 l2, .int .i64 l3, .int .i64 l4]] w fun e w' => e = .returned (.bool true) ∧ Below w.heap.size w w' := by
  have HQ := Kp.mk hq
  have HP := Kp.mk hp
  have HRQ := Kp.mk (fun w => request_any kind len n0 n1 cm st c4 c5 ck c7 c8 c9 c10 c11 c12 l0 l1 l2 l3 l4 k l kp hq w)
  have HRS := Kp.mk (fun w => response_any kind len minor n0 n1 cm st c4 c5 ck c7 c8 c9 c10 c11 c12 l0 l1 l2 l3 l4 k2 l2' kp2 chk hp w)
  clear hq hp
  have HS0 := Kp.mk (boxs_new w kind len n0 n1 cm st c4 c5 ck c7 c8 c9 c10 c11 c12 l0 l1 l2 l3 l4)
  go_enter Try.func3, Try.ntmps3
  go_upto_region 1 with fail
  have hz0 : w.heap.size + 1 < ((w.alloc (.cells #[.int .i64 kind, .int .i64 len] 23)).alloc (.cells #[.string n0, .string n1, .int .i64 cm, .int .i64 st, .int .i64 c4, .int .i64 c5, .int .i64 ck, .int .i64 c7, .int .i64 c8, .int .i64 c9, .int .i64 c10, .int .i64 c11, .int .i64 c12, .int .i64 l0, .int .i64 l1, .int .i64 l2, .int .i64 l3, .int .i64 l4] 27)).heap.size := by simp
  have HB0 := Kp.mk (((Below.refl w.heap.size w).alloc (Nat.le_refl _) (.cells #[.int .i64 kind, .int .i64 len] 23)).alloc (by simp) (.cells #[.string n0, .string n1, .int .i64 cm, .int .i64 st, .int .i64 c4, .int .i64 c5, .int .i64 ck, .int .i64 c7, .int .i64 c8, .int .i64 c9, .int .i64 c10, .int .i64 c11, .int .i64 c12, .int .i64 l0, .int .i64 l1, .int .i64 l2, .int .i64 l3, .int .i64 l4] 27))
  generalize ((w.alloc (.cells #[.int .i64 kind, .int .i64 len] 23)).alloc (.cells #[.string n0, .string n1, .int .i64 cm, .int .i64 st, .int .i64 c4, .int .i64 c5, .int .i64 ck, .int .i64 c7, .int .i64 c8, .int .i64 c9, .int .i64 c10, .int .i64 c11, .int .i64 c12, .int .i64 l0, .int .i64 l1, .int .i64 l2, .int .i64 l3, .int .i64 l4] 27)) = W0 at *
  go_cut [7, 8] (fun s7 s8 wx => ∃ b7 b8 : Nat, s7 = .pointer (some ⟨b7, 0, none⟩) ∧ s8 = .pointer (some ⟨b8, 0, none⟩) ∧ wx.heap[b7]? = some (.cells #[.int .i64 k, .int .i64 l, .bool kp, .int .i64 0] 29 (0, 0)) ∧ wx.heap[b8]? = some (.cells #[.int .i64 k2, .int .i64 l2', .bool kp2, .int .i64 chk] 29 (0, 0)) ∧ Below W0.heap.size W0 wx)
  case first =>
    have HD := Kp.mk (show Below W0.heap.size W0 W0.drew from (Below.refl _ _).drew)
    refine wp_region_held_drew (S := fun w' => BoxS w.heap.size kind len n0 n1 cm st c4 c5 ck c7 c8 c9 c10 c11 c12 l0 l1 l2 l3 l4 w') (by kernel_rfl) (keep20 HD.out hz0 HS0.out) (fun hHeld => ?_)
    generalize W0.drew = wD at *
    refine wpAnyH_take (i := 0) (oi := ⟨some 9, .load 23 (.tmp 3), _, _, _, none⟩) (v := ?_) rfl (by kernel_rfl) (by kernel_rfl) (by kernel_rfl) (fun _ _ _ h => h) (Or.inl ⟨by rfl, ?_⟩) (by assumption) ?_
    rotate_left
    · intro w hSw
      try dsimp only at hSw
      unfold BoxS at hSw
      obtain ⟨⟨s0, s1⟩, -⟩ := hSw
      go_simp
      try with_reducible rfl
    try simp only [Act.put, List.setIfInBounds_toArray, List.set_cons_zero, List.set_cons_succ]
    refine wpAnyH_take (i := 1) (oi := ⟨some 10, .load 27 (.tmp 5), _, _, _, none⟩) (v := .agg #[.string n0, .string n1, .int .i64 cm, .int .i64 st, .int .i64 c4, .int .i64 c5, .int .i64 ck, .int .i64 c7, .int .i64 c8, .int .i64 c9, .int .i64 c10, .int .i64 c11, .int .i64 c12, .int .i64 l0, .int .i64 l1, .int .i64 l2, .int .i64 l3, .int .i64 l4]) rfl (by kernel_rfl) (by kernel_rfl) (by kernel_rfl) (fun _ _ _ h => h) (yieldsIf_load_mid (by rfl) _ _ rfl (w.heap.size + 1) 0 rfl [.string n0, .string n1, .int .i64 cm, .int .i64 st, .int .i64 c4, .int .i64 c5, .int .i64 ck, .int .i64 c7, .int .i64 c8, .int .i64 c9, .int .i64 c10, .int .i64 c11, .int .i64 c12, .int .i64 l0, .int .i64 l1, .int .i64 l2, .int .i64 l3, .int .i64 l4] _ (fun w9 hw9 => hw9.2) Try.underlying27 rfl (by kernel_rfl)) (by assumption) ?_
    try simp only [Act.put, List.setIfInBounds_toArray, List.set_cons_zero, List.set_cons_succ]
    refine wpAnyH_take (i := 3) (oi := ⟨some 12, .load 23 (.tmp 3), _, _, _, none⟩) (v := ?_) rfl (by kernel_rfl) (by kernel_rfl) (by kernel_rfl) (fun _ _ _ h => h) (Or.inl ⟨by rfl, ?_⟩) (by assumption) ?_
    rotate_left
    · intro w hSw
      try dsimp only at hSw
      unfold BoxS at hSw
      obtain ⟨⟨s0, s1⟩, -⟩ := hSw
      go_simp
      try with_reducible rfl
    try simp only [Act.put, List.setIfInBounds_toArray, List.set_cons_zero, List.set_cons_succ]
    refine wpAnyH_take (i := 4) (oi := ⟨some 13, .move (.tmp 1), _, _, _, none⟩) (v := ?_) rfl (by kernel_rfl) (by kernel_rfl) (by kernel_rfl) (fun _ _ _ h => h) (Or.inl ⟨by rfl, ?_⟩) (by assumption) ?_
    rotate_left
    · intro w hSw
      try dsimp only at hSw
      unfold BoxS at hSw
      obtain ⟨⟨s0, s1⟩, -⟩ := hSw
      go_simp
      try with_reducible rfl
    try simp only [Act.put, List.setIfInBounds_toArray, List.set_cons_zero, List.set_cons_succ]
    refine wpAnyH_take (i := 5) (oi := ⟨some 14, .load 27 (.tmp 5), _, _, _, none⟩) (v := .agg #[.string n0, .string n1, .int .i64 cm, .int .i64 st, .int .i64 c4, .int .i64 c5, .int .i64 ck, .int .i64 c7, .int .i64 c8, .int .i64 c9, .int .i64 c10, .int .i64 c11, .int .i64 c12, .int .i64 l0, .int .i64 l1, .int .i64 l2, .int .i64 l3, .int .i64 l4]) rfl (by kernel_rfl) (by kernel_rfl) (by kernel_rfl) (fun _ _ _ h => h) (yieldsIf_load_mid (by rfl) _ _ rfl (w.heap.size + 1) 0 rfl [.string n0, .string n1, .int .i64 cm, .int .i64 st, .int .i64 c4, .int .i64 c5, .int .i64 ck, .int .i64 c7, .int .i64 c8, .int .i64 c9, .int .i64 c10, .int .i64 c11, .int .i64 c12, .int .i64 l0, .int .i64 l1, .int .i64 l2, .int .i64 l3, .int .i64 l4] _ (fun w9 hw9 => hw9.2) Try.underlying27 rfl (by kernel_rfl)) (by assumption) ?_
    try simp only [Act.put, List.setIfInBounds_toArray, List.set_cons_zero, List.set_cons_succ]
    clear hHeld
    refine wpAnyH_ready (rs := [2, 7, 8]) (by kernel_rfl) (by simp) ?_
    refine AllReadyH.cons (o := ⟨some 11, _, _, _, _, none⟩) rfl (fun K hK => ?_) ?_
    ·   go_simp
        (go_at_call 6; refine (HRQ.out _).mono ?_; rintro e x1 ⟨rfl, hb1⟩)
        try go_wp2_with fail
        replace HD := Kp.mk (HD.out.trans (hb1.mono HD.out.size))
        clear hb1
        refine hK.out _ _ (keep20 HD.out hz0 HS0.out) (fun _ => ?_)
        clear hK K
        try simp only [Act.put, List.setIfInBounds_toArray, List.set_cons_zero, List.set_cons_succ]
        refine wpAnyH_ready (rs := [6, 7, 8]) (by kernel_rfl) (by simp) ?_
        refine AllReadyH.cons (o := ⟨some 15, _, _, _, _, none⟩) rfl (fun K hK => ?_) ?_
        ·   go_simp
            (go_at_call 7; refine (HRS.out _).mono ?_; rintro e x2 ⟨rfl, hb1⟩)
            try go_wp2_with fail
            replace HD := Kp.mk (HD.out.trans (hb1.mono HD.out.size))
            clear hb1
            refine hK.out _ _ (keep20 HD.out hz0 HS0.out) (fun _ => ?_)
            clear hK K
            try simp only [Act.put, List.setIfInBounds_toArray, List.set_cons_zero, List.set_cons_succ]
            refine wpAnyH_ready (rs := [7, 8]) (by kernel_rfl) (by simp) ?_
            refine AllReadyH.cons (o := ⟨some 7, _, _, _, _, none⟩) rfl (fun K hK => ?_) ?_
            ·   go_simp
                have hB7 := HD.out.size
                have N7 := Kp.mk (heap_alloc_new x2 (.cells #[.int .i64 0, .int .i64 0, .bool false, .int .i64 0] 29))
                replace HD := Kp.mk (HD.out.alloc HD.out.size (.cells #[.int .i64 0, .int .i64 0, .bool false, .int .i64 0] 29))
                refine hK.out _ (x2.alloc (.cells #[.int .i64 0, .int .i64 0, .bool false, .int .i64 0] 29)) (keep20 HD.out hz0 HS0.out) (fun _ => ?_)
                clear hK K
                try simp only [Act.put, List.setIfInBounds_toArray, List.set_cons_zero, List.set_cons_succ]
                generalize (x2.alloc (.cells #[.int .i64 0, .int .i64 0, .bool false, .int .i64 0] 29)) = x3 at *
                refine wpAnyH_ready (rs := [8]) (by kernel_rfl) (by simp) ?_
                refine AllReadyH.cons (o := ⟨some 8, _, _, _, _, none⟩) rfl (fun K hK => ?_) AllReadyH.nil
                ·   go_simp
                    have hB8 := HD.out.size
                    have N8 := Kp.mk (heap_alloc_new x3 (.cells #[.int .i64 0, .int .i64 0, .bool false, .int .i64 0] 29))
                    replace HD := Kp.mk (HD.out.alloc HD.out.size (.cells #[.int .i64 0, .int .i64 0, .bool false, .int .i64 0] 29))
                    have hne : x2.heap.size ≠ x3.heap.size := by have := blk_lt N7.out; omega
                    replace N7 := Kp.mk (blk_alloc (o2 := .cells #[.int .i64 0, .int .i64 0, .bool false, .int .i64 0] 29) N7.out)
                    refine hK.out _ (x3.alloc (.cells #[.int .i64 0, .int .i64 0, .bool false, .int .i64 0] 29)) (keep20 HD.out hz0 HS0.out) (fun _ => ?_)
                    clear hK K
                    try simp only [Act.put, List.setIfInBounds_toArray, List.set_cons_zero, List.set_cons_succ]
                    generalize (x3.alloc (.cells #[.int .i64 0, .int .i64 0, .bool false, .int .i64 0] 29)) = x4 at *
                    refine wpAnyH_ready (rs := [9]) (by kernel_rfl) (by simp) ?_
                    refine AllReadyH.cons (o := ⟨none, _, _, _, _, none⟩) rfl (fun K hK => ?_) AllReadyH.nil
                    have u0 := blk_cell (i := 0) N7.out rfl
                    have u1 := blk_cell (i := 1) N7.out rfl
                    have u2 := blk_cell (i := 2) N7.out rfl
                    have u3 := blk_cell (i := 3) N7.out rfl
                    have q0 := blk_free (i := 0) N7.out
                    have q1 := blk_free (i := 1) N7.out
                    have q2 := blk_free (i := 2) N7.out
                    have q3 := blk_free (i := 3) N7.out
                    go_simp
                    replace N8 := Kp.mk (pl_put4o N8.out hne.symm (.int .i64 k) (.int .i64 l) (.bool kp) (.int .i64 0))
                    replace N7 := Kp.mk (pl_put4 N7.out (.int .i64 k) (.int .i64 l) (.bool kp) (.int .i64 0))
                    replace HD := Kp.mk (pl_put4b HD.out hB7 (.int .i64 k) (.int .i64 l) (.bool kp) (.int .i64 0))
                    refine hK.out _ ((((x4.setCell ⟨x2.heap.size, 0, none⟩ (.int .i64 k)).setCell ⟨x2.heap.size, 1, none⟩ (.int .i64 l)).setCell ⟨x2.heap.size, 2, none⟩ (.bool kp)).setCell ⟨x2.heap.size, 3, none⟩ (.int .i64 0)) (keep20 HD.out hz0 HS0.out) (fun _ => ?_)
                    clear hK K u0 u1 u2 u3 q0 q1 q2 q3
                    try simp only [Act.put, List.setIfInBounds_toArray, List.set_cons_zero, List.set_cons_succ]
                    generalize ((((x4.setCell ⟨x2.heap.size, 0, none⟩ (.int .i64 k)).setCell ⟨x2.heap.size, 1, none⟩ (.int .i64 l)).setCell ⟨x2.heap.size, 2, none⟩ (.bool kp)).setCell ⟨x2.heap.size, 3, none⟩ (.int .i64 0)) = x5 at *
                    refine wpAnyH_ready (rs := [10]) (by kernel_rfl) (by simp) ?_
                    refine AllReadyH.cons (o := ⟨none, _, _, _, _, none⟩) rfl (fun K hK => ?_) AllReadyH.nil
                    have u0 := blk_cell (i := 0) N8.out rfl
                    have u1 := blk_cell (i := 1) N8.out rfl
                    have u2 := blk_cell (i := 2) N8.out rfl
                    have u3 := blk_cell (i := 3) N8.out rfl
                    have q0 := blk_free (i := 0) N8.out
                    have q1 := blk_free (i := 1) N8.out
                    have q2 := blk_free (i := 2) N8.out
                    have q3 := blk_free (i := 3) N8.out
                    go_simp
                    replace N7 := Kp.mk (pl_put4o N7.out hne (.int .i64 k2) (.int .i64 l2') (.bool kp2) (.int .i64 chk))
                    replace N8 := Kp.mk (pl_put4 N8.out (.int .i64 k2) (.int .i64 l2') (.bool kp2) (.int .i64 chk))
                    replace HD := Kp.mk (pl_put4b HD.out hB8 (.int .i64 k2) (.int .i64 l2') (.bool kp2) (.int .i64 chk))
                    refine hK.out _ ((((x5.setCell ⟨x3.heap.size, 0, none⟩ (.int .i64 k2)).setCell ⟨x3.heap.size, 1, none⟩ (.int .i64 l2')).setCell ⟨x3.heap.size, 2, none⟩ (.bool kp2)).setCell ⟨x3.heap.size, 3, none⟩ (.int .i64 chk)) (keep20 HD.out hz0 HS0.out) (fun _ => ?_)
                    clear hK K u0 u1 u2 u3 q0 q1 q2 q3
                    try simp only [Act.put, List.setIfInBounds_toArray, List.set_cons_zero, List.set_cons_succ]
                    generalize ((((x5.setCell ⟨x3.heap.size, 0, none⟩ (.int .i64 k2)).setCell ⟨x3.heap.size, 1, none⟩ (.int .i64 l2')).setCell ⟨x3.heap.size, 2, none⟩ (.bool kp2)).setCell ⟨x3.heap.size, 3, none⟩ (.int .i64 chk)) = x6 at *
                    refine wpAnyH_done (by kernel_rfl) ?_ _
                    try go_wp2_with fail
                    try go_meet
                    exact ⟨_, _, rfl, rfl, N7.out, N8.out, HD.out⟩
            refine AllReadyH.cons (o := ⟨some 8, _, _, _, _, none⟩) rfl (fun K hK => ?_) AllReadyH.nil
            ·   go_simp
                have hB8 := HD.out.size
                have N8 := Kp.mk (heap_alloc_new x2 (.cells #[.int .i64 0, .int .i64 0, .bool false, .int .i64 0] 29))
                replace HD := Kp.mk (HD.out.alloc HD.out.size (.cells #[.int .i64 0, .int .i64 0, .bool false, .int .i64 0] 29))
                refine hK.out _ (x2.alloc (.cells #[.int .i64 0, .int .i64 0, .bool false, .int .i64 0] 29)) (keep20 HD.out hz0 HS0.out) (fun _ => ?_)
                clear hK K
                try simp only [Act.put, List.setIfInBounds_toArray, List.set_cons_zero, List.set_cons_succ]
                generalize (x2.alloc (.cells #[.int .i64 0, .int .i64 0, .bool false, .int .i64 0] 29)) = x7 at *
                refine wpAnyH_ready (rs := [7]) (by kernel_rfl) (by simp) ?_
                refine AllReadyH.cons (o := ⟨some 7, _, _, _, _, none⟩) rfl (fun K hK => ?_) AllReadyH.nil
                ·   go_simp
                    have hB7 := HD.out.size
                    have N7 := Kp.mk (heap_alloc_new x7 (.cells #[.int .i64 0, .int .i64 0, .bool false, .int .i64 0] 29))
                    replace HD := Kp.mk (HD.out.alloc HD.out.size (.cells #[.int .i64 0, .int .i64 0, .bool false, .int .i64 0] 29))
                    have hne : x2.heap.size ≠ x7.heap.size := by have := blk_lt N8.out; omega
                    replace N8 := Kp.mk (blk_alloc (o2 := .cells #[.int .i64 0, .int .i64 0, .bool false, .int .i64 0] 29) N8.out)
                    refine hK.out _ (x7.alloc (.cells #[.int .i64 0, .int .i64 0, .bool false, .int .i64 0] 29)) (keep20 HD.out hz0 HS0.out) (fun _ => ?_)
                    clear hK K
                    try simp only [Act.put, List.setIfInBounds_toArray, List.set_cons_zero, List.set_cons_succ]
                    generalize (x7.alloc (.cells #[.int .i64 0, .int .i64 0, .bool false, .int .i64 0] 29)) = x8 at *
                    refine wpAnyH_ready (rs := [9]) (by kernel_rfl) (by simp) ?_
                    refine AllReadyH.cons (o := ⟨none, _, _, _, _, none⟩) rfl (fun K hK => ?_) AllReadyH.nil
                    have u0 := blk_cell (i := 0) N7.out rfl
                    have u1 := blk_cell (i := 1) N7.out rfl
                    have u2 := blk_cell (i := 2) N7.out rfl
                    have u3 := blk_cell (i := 3) N7.out rfl
                    have q0 := blk_free (i := 0) N7.out
                    have q1 := blk_free (i := 1) N7.out
                    have q2 := blk_free (i := 2) N7.out
                    have q3 := blk_free (i := 3) N7.out
                    go_simp
                    replace N8 := Kp.mk (pl_put4o N8.out hne (.int .i64 k) (.int .i64 l) (.bool kp) (.int .i64 0))
                    replace N7 := Kp.mk (pl_put4 N7.out (.int .i64 k) (.int .i64 l) (.bool kp) (.int .i64 0))
                    replace HD := Kp.mk (pl_put4b HD.out hB7 (.int .i64 k) (.int .i64 l) (.bool kp) (.int .i64 0))
                    refine hK.out _ ((((x8.setCell ⟨x7.heap.size, 0, none⟩ (.int .i64 k)).setCell ⟨x7.heap.size, 1, none⟩ (.int .i64 l)).setCell ⟨x7.heap.size, 2, none⟩ (.bool kp)).setCell ⟨x7.heap.size, 3, none⟩ (.int .i64 0)) (keep20 HD.out hz0 HS0.out) (fun _ => ?_)
                    clear hK K u0 u1 u2 u3 q0 q1 q2 q3
                    try simp only [Act.put, List.setIfInBounds_toArray, List.set_cons_zero, List.set_cons_succ]
                    generalize ((((x8.setCell ⟨x7.heap.size, 0, none⟩ (.int .i64 k)).setCell ⟨x7.heap.size, 1, none⟩ (.int .i64 l)).setCell ⟨x7.heap.size, 2, none⟩ (.bool kp)).setCell ⟨x7.heap.size, 3, none⟩ (.int .i64 0)) = x9 at *
                    refine wpAnyH_ready (rs := [10]) (by kernel_rfl) (by simp) ?_
                    refine AllReadyH.cons (o := ⟨none, _, _, _, _, none⟩) rfl (fun K hK => ?_) AllReadyH.nil
                    have u0 := blk_cell (i := 0) N8.out rfl
                    have u1 := blk_cell (i := 1) N8.out rfl
                    have u2 := blk_cell (i := 2) N8.out rfl
                    have u3 := blk_cell (i := 3) N8.out rfl
                    have q0 := blk_free (i := 0) N8.out
                    have q1 := blk_free (i := 1) N8.out
                    have q2 := blk_free (i := 2) N8.out
                    have q3 := blk_free (i := 3) N8.out
                    go_simp
                    replace N7 := Kp.mk (pl_put4o N7.out hne.symm (.int .i64 k2) (.int .i64 l2') (.bool kp2) (.int .i64 chk))
                    replace N8 := Kp.mk (pl_put4 N8.out (.int .i64 k2) (.int .i64 l2') (.bool kp2) (.int .i64 chk))
                    replace HD := Kp.mk (pl_put4b HD.out hB8 (.int .i64 k2) (.int .i64 l2') (.bool kp2) (.int .i64 chk))
                    refine hK.out _ ((((x9.setCell ⟨x2.heap.size, 0, none⟩ (.int .i64 k2)).setCell ⟨x2.heap.size, 1, none⟩ (.int .i64 l2')).setCell ⟨x2.heap.size, 2, none⟩ (.bool kp2)).setCell ⟨x2.heap.size, 3, none⟩ (.int .i64 chk)) (keep20 HD.out hz0 HS0.out) (fun _ => ?_)
                    clear hK K u0 u1 u2 u3 q0 q1 q2 q3
                    try simp only [Act.put, List.setIfInBounds_toArray, List.set_cons_zero, List.set_cons_succ]
                    generalize ((((x9.setCell ⟨x2.heap.size, 0, none⟩ (.int .i64 k2)).setCell ⟨x2.heap.size, 1, none⟩ (.int .i64 l2')).setCell ⟨x2.heap.size, 2, none⟩ (.bool kp2)).setCell ⟨x2.heap.size, 3, none⟩ (.int .i64 chk)) = x10 at *
                    refine wpAnyH_done (by kernel_rfl) ?_ _
                    try go_wp2_with fail
                    try go_meet
                    exact ⟨_, _, rfl, rfl, N7.out, N8.out, HD.out⟩
        refine AllReadyH.cons (o := ⟨some 7, _, _, _, _, none⟩) rfl (fun K hK => ?_) ?_
        ·   go_simp
            have hB7 := HD.out.size
            have N7 := Kp.mk (heap_alloc_new x1 (.cells #[.int .i64 0, .int .i64 0, .bool false, .int .i64 0] 29))
            replace HD := Kp.mk (HD.out.alloc HD.out.size (.cells #[.int .i64 0, .int .i64 0, .bool false, .int .i64 0] 29))
            refine hK.out _ (x1.alloc (.cells #[.int .i64 0, .int .i64 0, .bool false, .int .i64 0] 29)) (keep20 HD.out hz0 HS0.out) (fun _ => ?_)
            clear hK K
            try simp only [Act.put, List.setIfInBounds_toArray, List.set_cons_zero, List.set_cons_succ]
            generalize (x1.alloc (.cells #[.int .i64 0, .int .i64 0, .bool false, .int .i64 0] 29)) = x11 at *
            refine wpAnyH_ready (rs := [6, 8]) (by kernel_rfl) (by simp) ?_
            refine AllReadyH.cons (o := ⟨some 15, _, _, _, _, none⟩) rfl (fun K hK => ?_) ?_
            ·   go_simp
                (go_at_call 7; refine (HRS.out _).mono ?_; rintro e x12 ⟨rfl, hb1⟩)
                try go_wp2_with fail
                replace HD := Kp.mk (HD.out.trans (hb1.mono HD.out.size))
                replace N7 := Kp.mk ((hb1.block _ (blk_lt N7.out)).trans N7.out)
                clear hb1
                refine hK.out _ _ (keep20 HD.out hz0 HS0.out) (fun _ => ?_)
                clear hK K
                try simp only [Act.put, List.setIfInBounds_toArray, List.set_cons_zero, List.set_cons_succ]
                refine wpAnyH_ready (rs := [8]) (by kernel_rfl) (by simp) ?_
                refine AllReadyH.cons (o := ⟨some 8, _, _, _, _, none⟩) rfl (fun K hK => ?_) AllReadyH.nil
                ·   go_simp
                    have hB8 := HD.out.size
                    have N8 := Kp.mk (heap_alloc_new x12 (.cells #[.int .i64 0, .int .i64 0, .bool false, .int .i64 0] 29))
                    replace HD := Kp.mk (HD.out.alloc HD.out.size (.cells #[.int .i64 0, .int .i64 0, .bool false, .int .i64 0] 29))
                    have hne : x1.heap.size ≠ x12.heap.size := by have := blk_lt N7.out; omega
                    replace N7 := Kp.mk (blk_alloc (o2 := .cells #[.int .i64 0, .int .i64 0, .bool false, .int .i64 0] 29) N7.out)
                    refine hK.out _ (x12.alloc (.cells #[.int .i64 0, .int .i64 0, .bool false, .int .i64 0] 29)) (keep20 HD.out hz0 HS0.out) (fun _ => ?_)
                    clear hK K
                    try simp only [Act.put, List.setIfInBounds_toArray, List.set_cons_zero, List.set_cons_succ]
                    generalize (x12.alloc (.cells #[.int .i64 0, .int .i64 0, .bool false, .int .i64 0] 29)) = x13 at *
                    refine wpAnyH_ready (rs := [9]) (by kernel_rfl) (by simp) ?_
                    refine AllReadyH.cons (o := ⟨none, _, _, _, _, none⟩) rfl (fun K hK => ?_) AllReadyH.nil
                    have u0 := blk_cell (i := 0) N7.out rfl
                    have u1 := blk_cell (i := 1) N7.out rfl
                    have u2 := blk_cell (i := 2) N7.out rfl
                    have u3 := blk_cell (i := 3) N7.out rfl
                    have q0 := blk_free (i := 0) N7.out
                    have q1 := blk_free (i := 1) N7.out
                    have q2 := blk_free (i := 2) N7.out
                    have q3 := blk_free (i := 3) N7.out
                    go_simp
                    replace N8 := Kp.mk (pl_put4o N8.out hne.symm (.int .i64 k) (.int .i64 l) (.bool kp) (.int .i64 0))
                    replace N7 := Kp.mk (pl_put4 N7.out (.int .i64 k) (.int .i64 l) (.bool kp) (.int .i64 0))
                    replace HD := Kp.mk (pl_put4b HD.out hB7 (.int .i64 k) (.int .i64 l) (.bool kp) (.int .i64 0))
                    refine hK.out _ ((((x13.setCell ⟨x1.heap.size, 0, none⟩ (.int .i64 k)).setCell ⟨x1.heap.size, 1, none⟩ (.int .i64 l)).setCell ⟨x1.heap.size, 2, none⟩ (.bool kp)).setCell ⟨x1.heap.size, 3, none⟩ (.int .i64 0)) (keep20 HD.out hz0 HS0.out) (fun _ => ?_)
                    clear hK K u0 u1 u2 u3 q0 q1 q2 q3
                    try simp only [Act.put, List.setIfInBounds_toArray, List.set_cons_zero, List.set_cons_succ]
                    generalize ((((x13.setCell ⟨x1.heap.size, 0, none⟩ (.int .i64 k)).setCell ⟨x1.heap.size, 1, none⟩ (.int .i64 l)).setCell ⟨x1.heap.size, 2, none⟩ (.bool kp)).setCell ⟨x1.heap.size, 3, none⟩ (.int .i64 0)) = x14 at *
                    refine wpAnyH_ready (rs := [10]) (by kernel_rfl) (by simp) ?_
                    refine AllReadyH.cons (o := ⟨none, _, _, _, _, none⟩) rfl (fun K hK => ?_) AllReadyH.nil
                    have u0 := blk_cell (i := 0) N8.out rfl
                    have u1 := blk_cell (i := 1) N8.out rfl
                    have u2 := blk_cell (i := 2) N8.out rfl
                    have u3 := blk_cell (i := 3) N8.out rfl
                    have q0 := blk_free (i := 0) N8.out
                    have q1 := blk_free (i := 1) N8.out
                    have q2 := blk_free (i := 2) N8.out
                    have q3 := blk_free (i := 3) N8.out
                    go_simp
                    replace N7 := Kp.mk (pl_put4o N7.out hne (.int .i64 k2) (.int .i64 l2') (.bool kp2) (.int .i64 chk))
                    replace N8 := Kp.mk (pl_put4 N8.out (.int .i64 k2) (.int .i64 l2') (.bool kp2) (.int .i64 chk))
                    replace HD := Kp.mk (pl_put4b HD.out hB8 (.int .i64 k2) (.int .i64 l2') (.bool kp2) (.int .i64 chk))
                    refine hK.out _ ((((x14.setCell ⟨x12.heap.size, 0, none⟩ (.int .i64 k2)).setCell ⟨x12.heap.size, 1, none⟩ (.int .i64 l2')).setCell ⟨x12.heap.size, 2, none⟩ (.bool kp2)).setCell ⟨x12.heap.size, 3, none⟩ (.int .i64 chk)) (keep20 HD.out hz0 HS0.out) (fun _ => ?_)
                    clear hK K u0 u1 u2 u3 q0 q1 q2 q3
                    try simp only [Act.put, List.setIfInBounds_toArray, List.set_cons_zero, List.set_cons_succ]
                    generalize ((((x14.setCell ⟨x12.heap.size, 0, none⟩ (.int .i64 k2)).setCell ⟨x12.heap.size, 1, none⟩ (.int .i64 l2')).setCell ⟨x12.heap.size, 2, none⟩ (.bool kp2)).setCell ⟨x12.heap.size, 3, none⟩ (.int .i64 chk)) = x15 at *
                    refine wpAnyH_done (by kernel_rfl) ?_ _
                    try go_wp2_with fail
                    try go_meet
                    exact ⟨_, _, rfl, rfl, N7.out, N8.out, HD.out⟩
            refine AllReadyH.cons (o := ⟨some 8, _, _, _, _, none⟩) rfl (fun K hK => ?_) AllReadyH.nil
            ·   go_simp
                have hB8 := HD.out.size
                have N8 := Kp.mk (heap_alloc_new x11 (.cells #[.int .i64 0, .int .i64 0, .bool false, .int .i64 0] 29))
                replace HD := Kp.mk (HD.out.alloc HD.out.size (.cells #[.int .i64 0, .int .i64 0, .bool false, .int .i64 0] 29))
                have hne : x1.heap.size ≠ x11.heap.size := by have := blk_lt N7.out; omega
                replace N7 := Kp.mk (blk_alloc (o2 := .cells #[.int .i64 0, .int .i64 0, .bool false, .int .i64 0] 29) N7.out)
                refine hK.out _ (x11.alloc (.cells #[.int .i64 0, .int .i64 0, .bool false, .int .i64 0] 29)) (keep20 HD.out hz0 HS0.out) (fun _ => ?_)
                clear hK K
                try simp only [Act.put, List.setIfInBounds_toArray, List.set_cons_zero, List.set_cons_succ]
                generalize (x11.alloc (.cells #[.int .i64 0, .int .i64 0, .bool false, .int .i64 0] 29)) = x16 at *
                refine wpAnyH_ready (rs := [6]) (by kernel_rfl) (by simp) ?_
                refine AllReadyH.cons (o := ⟨some 15, _, _, _, _, none⟩) rfl (fun K hK => ?_) AllReadyH.nil
                ·   go_simp
                    (go_at_call 7; refine (HRS.out _).mono ?_; rintro e x17 ⟨rfl, hb1⟩)
                    try go_wp2_with fail
                    replace HD := Kp.mk (HD.out.trans (hb1.mono HD.out.size))
                    replace N7 := Kp.mk ((hb1.block _ (blk_lt N7.out)).trans N7.out)
                    replace N8 := Kp.mk ((hb1.block _ (blk_lt N8.out)).trans N8.out)
                    clear hb1
                    refine hK.out _ _ (keep20 HD.out hz0 HS0.out) (fun _ => ?_)
                    clear hK K
                    try simp only [Act.put, List.setIfInBounds_toArray, List.set_cons_zero, List.set_cons_succ]
                    refine wpAnyH_ready (rs := [9]) (by kernel_rfl) (by simp) ?_
                    refine AllReadyH.cons (o := ⟨none, _, _, _, _, none⟩) rfl (fun K hK => ?_) AllReadyH.nil
                    have u0 := blk_cell (i := 0) N7.out rfl
                    have u1 := blk_cell (i := 1) N7.out rfl
                    have u2 := blk_cell (i := 2) N7.out rfl
                    have u3 := blk_cell (i := 3) N7.out rfl
                    have q0 := blk_free (i := 0) N7.out
                    have q1 := blk_free (i := 1) N7.out
                    have q2 := blk_free (i := 2) N7.out
                    have q3 := blk_free (i := 3) N7.out
                    go_simp
                    replace N8 := Kp.mk (pl_put4o N8.out hne.symm (.int .i64 k) (.int .i64 l) (.bool kp) (.int .i64 0))
                    replace N7 := Kp.mk (pl_put4 N7.out (.int .i64 k) (.int .i64 l) (.bool kp) (.int .i64 0))
                    replace HD := Kp.mk (pl_put4b HD.out hB7 (.int .i64 k) (.int .i64 l) (.bool kp) (.int .i64 0))
                    refine hK.out _ ((((x17.setCell ⟨x1.heap.size, 0, none⟩ (.int .i64 k)).setCell ⟨x1.heap.size, 1, none⟩ (.int .i64 l)).setCell ⟨x1.heap.size, 2, none⟩ (.bool kp)).setCell ⟨x1.heap.size, 3, none⟩ (.int .i64 0)) (keep20 HD.out hz0 HS0.out) (fun _ => ?_)
                    clear hK K u0 u1 u2 u3 q0 q1 q2 q3
                    try simp only [Act.put, List.setIfInBounds_toArray, List.set_cons_zero, List.set_cons_succ]
                    generalize ((((x17.setCell ⟨x1.heap.size, 0, none⟩ (.int .i64 k)).setCell ⟨x1.heap.size, 1, none⟩ (.int .i64 l)).setCell ⟨x1.heap.size, 2, none⟩ (.bool kp)).setCell ⟨x1.heap.size, 3, none⟩ (.int .i64 0)) = x18 at *
                    refine wpAnyH_ready (rs := [10]) (by kernel_rfl) (by simp) ?_
                    refine AllReadyH.cons (o := ⟨none, _, _, _, _, none⟩) rfl (fun K hK => ?_) AllReadyH.nil
                    have u0 := blk_cell (i := 0) N8.out rfl
                    have u1 := blk_cell (i := 1) N8.out rfl
                    have u2 := blk_cell (i := 2) N8.out rfl
                    have u3 := blk_cell (i := 3) N8.out rfl
                    have q0 := blk_free (i := 0) N8.out
                    have q1 := blk_free (i := 1) N8.out
                    have q2 := blk_free (i := 2) N8.out
                    have q3 := blk_free (i := 3) N8.out
                    go_simp
                    replace N7 := Kp.mk (pl_put4o N7.out hne (.int .i64 k2) (.int .i64 l2') (.bool kp2) (.int .i64 chk))
                    replace N8 := Kp.mk (pl_put4 N8.out (.int .i64 k2) (.int .i64 l2') (.bool kp2) (.int .i64 chk))
                    replace HD := Kp.mk (pl_put4b HD.out hB8 (.int .i64 k2) (.int .i64 l2') (.bool kp2) (.int .i64 chk))
                    refine hK.out _ ((((x18.setCell ⟨x11.heap.size, 0, none⟩ (.int .i64 k2)).setCell ⟨x11.heap.size, 1, none⟩ (.int .i64 l2')).setCell ⟨x11.heap.size, 2, none⟩ (.bool kp2)).setCell ⟨x11.heap.size, 3, none⟩ (.int .i64 chk)) (keep20 HD.out hz0 HS0.out) (fun _ => ?_)
                    clear hK K u0 u1 u2 u3 q0 q1 q2 q3
                    try simp only [Act.put, List.setIfInBounds_toArray, List.set_cons_zero, List.set_cons_succ]
                    generalize ((((x18.setCell ⟨x11.heap.size, 0, none⟩ (.int .i64 k2)).setCell ⟨x11.heap.size, 1, none⟩ (.int .i64 l2')).setCell ⟨x11.heap.size, 2, none⟩ (.bool kp2)).setCell ⟨x11.heap.size, 3, none⟩ (.int .i64 chk)) = x19 at *
                    refine wpAnyH_done (by kernel_rfl) ?_ _
                    try go_wp2_with fail
                    try go_meet
                    exact ⟨_, _, rfl, rfl, N7.out, N8.out, HD.out⟩
        refine AllReadyH.cons (o := ⟨some 8, _, _, _, _, none⟩) rfl (fun K hK => ?_) AllReadyH.nil
        ·   go_simp
            have hB8 := HD.out.size
            have N8 := Kp.mk (heap_alloc_new x1 (.cells #[.int .i64 0, .int .i64 0, .bool false, .int .i64 0] 29))
            replace HD := Kp.mk (HD.out.alloc HD.out.size (.cells #[.int .i64 0, .int .i64 0, .bool false, .int .i64 0] 29))
            refine hK.out _ (x1.alloc (.cells #[.int .i64 0, .int .i64 0, .bool false, .int .i64 0] 29)) (keep20 HD.out hz0 HS0.out) (fun _ => ?_)
            clear hK K
            try simp only [Act.put, List.setIfInBounds_toArray, List.set_cons_zero, List.set_cons_succ]
            generalize (x1.alloc (.cells #[.int .i64 0, .int .i64 0, .bool false, .int .i64 0] 29)) = x20 at *
            refine wpAnyH_ready (rs := [6, 7]) (by kernel_rfl) (by simp) ?_
            refine AllReadyH.cons (o := ⟨some 15, _, _, _, _, none⟩) rfl (fun K hK => ?_) ?_
            ·   go_simp
                (go_at_call 7; refine (HRS.out _).mono ?_; rintro e x21 ⟨rfl, hb1⟩)
                try go_wp2_with fail
                replace HD := Kp.mk (HD.out.trans (hb1.mono HD.out.size))
                replace N8 := Kp.mk ((hb1.block _ (blk_lt N8.out)).trans N8.out)
                clear hb1
                refine hK.out _ _ (keep20 HD.out hz0 HS0.out) (fun _ => ?_)
                clear hK K
                try simp only [Act.put, List.setIfInBounds_toArray, List.set_cons_zero, List.set_cons_succ]
                refine wpAnyH_ready (rs := [7]) (by kernel_rfl) (by simp) ?_
                refine AllReadyH.cons (o := ⟨some 7, _, _, _, _, none⟩) rfl (fun K hK => ?_) AllReadyH.nil
                ·   go_simp
                    have hB7 := HD.out.size
                    have N7 := Kp.mk (heap_alloc_new x21 (.cells #[.int .i64 0, .int .i64 0, .bool false, .int .i64 0] 29))
                    replace HD := Kp.mk (HD.out.alloc HD.out.size (.cells #[.int .i64 0, .int .i64 0, .bool false, .int .i64 0] 29))
                    have hne : x1.heap.size ≠ x21.heap.size := by have := blk_lt N8.out; omega
                    replace N8 := Kp.mk (blk_alloc (o2 := .cells #[.int .i64 0, .int .i64 0, .bool false, .int .i64 0] 29) N8.out)
                    refine hK.out _ (x21.alloc (.cells #[.int .i64 0, .int .i64 0, .bool false, .int .i64 0] 29)) (keep20 HD.out hz0 HS0.out) (fun _ => ?_)
                    clear hK K
                    try simp only [Act.put, List.setIfInBounds_toArray, List.set_cons_zero, List.set_cons_succ]
                    generalize (x21.alloc (.cells #[.int .i64 0, .int .i64 0, .bool false, .int .i64 0] 29)) = x22 at *
                    refine wpAnyH_ready (rs := [9]) (by kernel_rfl) (by simp) ?_
                    refine AllReadyH.cons (o := ⟨none, _, _, _, _, none⟩) rfl (fun K hK => ?_) AllReadyH.nil
                    have u0 := blk_cell (i := 0) N7.out rfl
                    have u1 := blk_cell (i := 1) N7.out rfl
                    have u2 := blk_cell (i := 2) N7.out rfl
                    have u3 := blk_cell (i := 3) N7.out rfl
                    have q0 := blk_free (i := 0) N7.out
                    have q1 := blk_free (i := 1) N7.out
                    have q2 := blk_free (i := 2) N7.out
                    have q3 := blk_free (i := 3) N7.out
                    go_simp
                    replace N8 := Kp.mk (pl_put4o N8.out hne (.int .i64 k) (.int .i64 l) (.bool kp) (.int .i64 0))
                    replace N7 := Kp.mk (pl_put4 N7.out (.int .i64 k) (.int .i64 l) (.bool kp) (.int .i64 0))
                    replace HD := Kp.mk (pl_put4b HD.out hB7 (.int .i64 k) (.int .i64 l) (.bool kp) (.int .i64 0))
                    refine hK.out _ ((((x22.setCell ⟨x21.heap.size, 0, none⟩ (.int .i64 k)).setCell ⟨x21.heap.size, 1, none⟩ (.int .i64 l)).setCell ⟨x21.heap.size, 2, none⟩ (.bool kp)).setCell ⟨x21.heap.size, 3, none⟩ (.int .i64 0)) (keep20 HD.out hz0 HS0.out) (fun _ => ?_)
                    clear hK K u0 u1 u2 u3 q0 q1 q2 q3
                    try simp only [Act.put, List.setIfInBounds_toArray, List.set_cons_zero, List.set_cons_succ]
                    generalize ((((x22.setCell ⟨x21.heap.size, 0, none⟩ (.int .i64 k)).setCell ⟨x21.heap.size, 1, none⟩ (.int .i64 l)).setCell ⟨x21.heap.size, 2, none⟩ (.bool kp)).setCell ⟨x21.heap.size, 3, none⟩ (.int .i64 0)) = x23 at *
                    refine wpAnyH_ready (rs := [10]) (by kernel_rfl) (by simp) ?_
                    refine AllReadyH.cons (o := ⟨none, _, _, _, _, none⟩) rfl (fun K hK => ?_) AllReadyH.nil
                    have u0 := blk_cell (i := 0) N8.out rfl
                    have u1 := blk_cell (i := 1) N8.out rfl
                    have u2 := blk_cell (i := 2) N8.out rfl
                    have u3 := blk_cell (i := 3) N8.out rfl
                    have q0 := blk_free (i := 0) N8.out
                    have q1 := blk_free (i := 1) N8.out
                    have q2 := blk_free (i := 2) N8.out
                    have q3 := blk_free (i := 3) N8.out
                    go_simp
                    replace N7 := Kp.mk (pl_put4o N7.out hne.symm (.int .i64 k2) (.int .i64 l2') (.bool kp2) (.int .i64 chk))
                    replace N8 := Kp.mk (pl_put4 N8.out (.int .i64 k2) (.int .i64 l2') (.bool kp2) (.int .i64 chk))
                    replace HD := Kp.mk (pl_put4b HD.out hB8 (.int .i64 k2) (.int .i64 l2') (.bool kp2) (.int .i64 chk))
                    refine hK.out _ ((((x23.setCell ⟨x1.heap.size, 0, none⟩ (.int .i64 k2)).setCell ⟨x1.heap.size, 1, none⟩ (.int .i64 l2')).setCell ⟨x1.heap.size, 2, none⟩ (.bool kp2)).setCell ⟨x1.heap.size, 3, none⟩ (.int .i64 chk)) (keep20 HD.out hz0 HS0.out) (fun _ => ?_)
                    clear hK K u0 u1 u2 u3 q0 q1 q2 q3
                    try simp only [Act.put, List.setIfInBounds_toArray, List.set_cons_zero, List.set_cons_succ]
                    generalize ((((x23.setCell ⟨x1.heap.size, 0, none⟩ (.int .i64 k2)).setCell ⟨x1.heap.size, 1, none⟩ (.int .i64 l2')).setCell ⟨x1.heap.size, 2, none⟩ (.bool kp2)).setCell ⟨x1.heap.size, 3, none⟩ (.int .i64 chk)) = x24 at *
                    refine wpAnyH_done (by kernel_rfl) ?_ _
                    try go_wp2_with fail
                    try go_meet
                    exact ⟨_, _, rfl, rfl, N7.out, N8.out, HD.out⟩
            refine AllReadyH.cons (o := ⟨some 7, _, _, _, _, none⟩) rfl (fun K hK => ?_) AllReadyH.nil
            ·   go_simp
                have hB7 := HD.out.size
                have N7 := Kp.mk (heap_alloc_new x20 (.cells #[.int .i64 0, .int .i64 0, .bool false, .int .i64 0] 29))
                replace HD := Kp.mk (HD.out.alloc HD.out.size (.cells #[.int .i64 0, .int .i64 0, .bool false, .int .i64 0] 29))
                have hne : x1.heap.size ≠ x20.heap.size := by have := blk_lt N8.out; omega
                replace N8 := Kp.mk (blk_alloc (o2 := .cells #[.int .i64 0, .int .i64 0, .bool false, .int .i64 0] 29) N8.out)
                refine hK.out _ (x20.alloc (.cells #[.int .i64 0, .int .i64 0, .bool false, .int .i64 0] 29)) (keep20 HD.out hz0 HS0.out) (fun _ => ?_)
                clear hK K
                try simp only [Act.put, List.setIfInBounds_toArray, List.set_cons_zero, List.set_cons_succ]
                generalize (x20.alloc (.cells #[.int .i64 0, .int .i64 0, .bool false, .int .i64 0] 29)) = x25 at *
                refine wpAnyH_ready (rs := [6]) (by kernel_rfl) (by simp) ?_
                refine AllReadyH.cons (o := ⟨some 15, _, _, _, _, none⟩) rfl (fun K hK => ?_) AllReadyH.nil
                ·   go_simp
                    (go_at_call 7; refine (HRS.out _).mono ?_; rintro e x26 ⟨rfl, hb1⟩)
                    try go_wp2_with fail
                    replace HD := Kp.mk (HD.out.trans (hb1.mono HD.out.size))
                    replace N7 := Kp.mk ((hb1.block _ (blk_lt N7.out)).trans N7.out)
                    replace N8 := Kp.mk ((hb1.block _ (blk_lt N8.out)).trans N8.out)
                    clear hb1
                    refine hK.out _ _ (keep20 HD.out hz0 HS0.out) (fun _ => ?_)
                    clear hK K
                    try simp only [Act.put, List.setIfInBounds_toArray, List.set_cons_zero, List.set_cons_succ]
                    refine wpAnyH_ready (rs := [9]) (by kernel_rfl) (by simp) ?_
                    refine AllReadyH.cons (o := ⟨none, _, _, _, _, none⟩) rfl (fun K hK => ?_) AllReadyH.nil
                    have u0 := blk_cell (i := 0) N7.out rfl
                    have u1 := blk_cell (i := 1) N7.out rfl
                    have u2 := blk_cell (i := 2) N7.out rfl
                    have u3 := blk_cell (i := 3) N7.out rfl
                    have q0 := blk_free (i := 0) N7.out
                    have q1 := blk_free (i := 1) N7.out
                    have q2 := blk_free (i := 2) N7.out
                    have q3 := blk_free (i := 3) N7.out
                    go_simp
                    replace N8 := Kp.mk (pl_put4o N8.out hne (.int .i64 k) (.int .i64 l) (.bool kp) (.int .i64 0))
                    replace N7 := Kp.mk (pl_put4 N7.out (.int .i64 k) (.int .i64 l) (.bool kp) (.int .i64 0))
                    replace HD := Kp.mk (pl_put4b HD.out hB7 (.int .i64 k) (.int .i64 l) (.bool kp) (.int .i64 0))
                    refine hK.out _ ((((x26.setCell ⟨x20.heap.size, 0, none⟩ (.int .i64 k)).setCell ⟨x20.heap.size, 1, none⟩ (.int .i64 l)).setCell ⟨x20.heap.size, 2, none⟩ (.bool kp)).setCell ⟨x20.heap.size, 3, none⟩ (.int .i64 0)) (keep20 HD.out hz0 HS0.out) (fun _ => ?_)
                    clear hK K u0 u1 u2 u3 q0 q1 q2 q3
                    try simp only [Act.put, List.setIfInBounds_toArray, List.set_cons_zero, List.set_cons_succ]
                    generalize ((((x26.setCell ⟨x20.heap.size, 0, none⟩ (.int .i64 k)).setCell ⟨x20.heap.size, 1, none⟩ (.int .i64 l)).setCell ⟨x20.heap.size, 2, none⟩ (.bool kp)).setCell ⟨x20.heap.size, 3, none⟩ (.int .i64 0)) = x27 at *
                    refine wpAnyH_ready (rs := [10]) (by kernel_rfl) (by simp) ?_
                    refine AllReadyH.cons (o := ⟨none, _, _, _, _, none⟩) rfl (fun K hK => ?_) AllReadyH.nil
                    have u0 := blk_cell (i := 0) N8.out rfl
                    have u1 := blk_cell (i := 1) N8.out rfl
                    have u2 := blk_cell (i := 2) N8.out rfl
                    have u3 := blk_cell (i := 3) N8.out rfl
                    have q0 := blk_free (i := 0) N8.out
                    have q1 := blk_free (i := 1) N8.out
                    have q2 := blk_free (i := 2) N8.out
                    have q3 := blk_free (i := 3) N8.out
                    go_simp
                    replace N7 := Kp.mk (pl_put4o N7.out hne.symm (.int .i64 k2) (.int .i64 l2') (.bool kp2) (.int .i64 chk))
                    replace N8 := Kp.mk (pl_put4 N8.out (.int .i64 k2) (.int .i64 l2') (.bool kp2) (.int .i64 chk))
                    replace HD := Kp.mk (pl_put4b HD.out hB8 (.int .i64 k2) (.int .i64 l2') (.bool kp2) (.int .i64 chk))
                    refine hK.out _ ((((x27.setCell ⟨x1.heap.size, 0, none⟩ (.int .i64 k2)).setCell ⟨x1.heap.size, 1, none⟩ (.int .i64 l2')).setCell ⟨x1.heap.size, 2, none⟩ (.bool kp2)).setCell ⟨x1.heap.size, 3, none⟩ (.int .i64 chk)) (keep20 HD.out hz0 HS0.out) (fun _ => ?_)
                    clear hK K u0 u1 u2 u3 q0 q1 q2 q3
                    try simp only [Act.put, List.setIfInBounds_toArray, List.set_cons_zero, List.set_cons_succ]
                    generalize ((((x27.setCell ⟨x1.heap.size, 0, none⟩ (.int .i64 k2)).setCell ⟨x1.heap.size, 1, none⟩ (.int .i64 l2')).setCell ⟨x1.heap.size, 2, none⟩ (.bool kp2)).setCell ⟨x1.heap.size, 3, none⟩ (.int .i64 chk)) = x28 at *
                    refine wpAnyH_done (by kernel_rfl) ?_ _
                    try go_wp2_with fail
                    try go_meet
                    exact ⟨_, _, rfl, rfl, N7.out, N8.out, HD.out⟩
    refine AllReadyH.cons (o := ⟨some 7, _, _, _, _, none⟩) rfl (fun K hK => ?_) ?_
    ·   go_simp
        have hB7 := HD.out.size
        have N7 := Kp.mk (heap_alloc_new wD (.cells #[.int .i64 0, .int .i64 0, .bool false, .int .i64 0] 29))
        replace HD := Kp.mk (HD.out.alloc HD.out.size (.cells #[.int .i64 0, .int .i64 0, .bool false, .int .i64 0] 29))
        refine hK.out _ (wD.alloc (.cells #[.int .i64 0, .int .i64 0, .bool false, .int .i64 0] 29)) (keep20 HD.out hz0 HS0.out) (fun _ => ?_)
        clear hK K
        try simp only [Act.put, List.setIfInBounds_toArray, List.set_cons_zero, List.set_cons_succ]
        generalize (wD.alloc (.cells #[.int .i64 0, .int .i64 0, .bool false, .int .i64 0] 29)) = x29 at *
        refine wpAnyH_ready (rs := [2, 8]) (by kernel_rfl) (by simp) ?_
        refine AllReadyH.cons (o := ⟨some 11, _, _, _, _, none⟩) rfl (fun K hK => ?_) ?_
        ·   go_simp
            (go_at_call 6; refine (HRQ.out _).mono ?_; rintro e x30 ⟨rfl, hb1⟩)
            try go_wp2_with fail
            replace HD := Kp.mk (HD.out.trans (hb1.mono HD.out.size))
            replace N7 := Kp.mk ((hb1.block _ (blk_lt N7.out)).trans N7.out)
            clear hb1
            refine hK.out _ _ (keep20 HD.out hz0 HS0.out) (fun _ => ?_)
            clear hK K
            try simp only [Act.put, List.setIfInBounds_toArray, List.set_cons_zero, List.set_cons_succ]
            refine wpAnyH_ready (rs := [6, 8]) (by kernel_rfl) (by simp) ?_
            refine AllReadyH.cons (o := ⟨some 15, _, _, _, _, none⟩) rfl (fun K hK => ?_) ?_
            ·   go_simp
                (go_at_call 7; refine (HRS.out _).mono ?_; rintro e x31 ⟨rfl, hb1⟩)
                try go_wp2_with fail
                replace HD := Kp.mk (HD.out.trans (hb1.mono HD.out.size))
                replace N7 := Kp.mk ((hb1.block _ (blk_lt N7.out)).trans N7.out)
                clear hb1
                refine hK.out _ _ (keep20 HD.out hz0 HS0.out) (fun _ => ?_)
                clear hK K
                try simp only [Act.put, List.setIfInBounds_toArray, List.set_cons_zero, List.set_cons_succ]
                refine wpAnyH_ready (rs := [8]) (by kernel_rfl) (by simp) ?_
                refine AllReadyH.cons (o := ⟨some 8, _, _, _, _, none⟩) rfl (fun K hK => ?_) AllReadyH.nil
                ·   go_simp
                    have hB8 := HD.out.size
                    have N8 := Kp.mk (heap_alloc_new x31 (.cells #[.int .i64 0, .int .i64 0, .bool false, .int .i64 0] 29))
                    replace HD := Kp.mk (HD.out.alloc HD.out.size (.cells #[.int .i64 0, .int .i64 0, .bool false, .int .i64 0] 29))
                    have hne : wD.heap.size ≠ x31.heap.size := by have := blk_lt N7.out; omega
                    replace N7 := Kp.mk (blk_alloc (o2 := .cells #[.int .i64 0, .int .i64 0, .bool false, .int .i64 0] 29) N7.out)
                    refine hK.out _ (x31.alloc (.cells #[.int .i64 0, .int .i64 0, .bool false, .int .i64 0] 29)) (keep20 HD.out hz0 HS0.out) (fun _ => ?_)
                    clear hK K
                    try simp only [Act.put, List.setIfInBounds_toArray, List.set_cons_zero, List.set_cons_succ]
                    generalize (x31.alloc (.cells #[.int .i64 0, .int .i64 0, .bool false, .int .i64 0] 29)) = x32 at *
                    refine wpAnyH_ready (rs := [9]) (by kernel_rfl) (by simp) ?_
                    refine AllReadyH.cons (o := ⟨none, _, _, _, _, none⟩) rfl (fun K hK => ?_) AllReadyH.nil
                    have u0 := blk_cell (i := 0) N7.out rfl
                    have u1 := blk_cell (i := 1) N7.out rfl
                    have u2 := blk_cell (i := 2) N7.out rfl
                    have u3 := blk_cell (i := 3) N7.out rfl
                    have q0 := blk_free (i := 0) N7.out
                    have q1 := blk_free (i := 1) N7.out
                    have q2 := blk_free (i := 2) N7.out
                    have q3 := blk_free (i := 3) N7.out
                    go_simp
                    replace N8 := Kp.mk (pl_put4o N8.out hne.symm (.int .i64 k) (.int .i64 l) (.bool kp) (.int .i64 0))
                    replace N7 := Kp.mk (pl_put4 N7.out (.int .i64 k) (.int .i64 l) (.bool kp) (.int .i64 0))
                    replace HD := Kp.mk (pl_put4b HD.out hB7 (.int .i64 k) (.int .i64 l) (.bool kp) (.int .i64 0))
                    refine hK.out _ ((((x32.setCell ⟨wD.heap.size, 0, none⟩ (.int .i64 k)).setCell ⟨wD.heap.size, 1, none⟩ (.int .i64 l)).setCell ⟨wD.heap.size, 2, none⟩ (.bool kp)).setCell ⟨wD.heap.size, 3, none⟩ (.int .i64 0)) (keep20 HD.out hz0 HS0.out) (fun _ => ?_)
                    clear hK K u0 u1 u2 u3 q0 q1 q2 q3
                    try simp only [Act.put, List.setIfInBounds_toArray, List.set_cons_zero, List.set_cons_succ]
                    generalize ((((x32.setCell ⟨wD.heap.size, 0, none⟩ (.int .i64 k)).setCell ⟨wD.heap.size, 1, none⟩ (.int .i64 l)).setCell ⟨wD.heap.size, 2, none⟩ (.bool kp)).setCell ⟨wD.heap.size, 3, none⟩ (.int .i64 0)) = x33 at *
                    refine wpAnyH_ready (rs := [10]) (by kernel_rfl) (by simp) ?_
                    refine AllReadyH.cons (o := ⟨none, _, _, _, _, none⟩) rfl (fun K hK => ?_) AllReadyH.nil
                    have u0 := blk_cell (i := 0) N8.out rfl
                    have u1 := blk_cell (i := 1) N8.out rfl
                    have u2 := blk_cell (i := 2) N8.out rfl
                    have u3 := blk_cell (i := 3) N8.out rfl
                    have q0 := blk_free (i := 0) N8.out
                    have q1 := blk_free (i := 1) N8.out
                    have q2 := blk_free (i := 2) N8.out
                    have q3 := blk_free (i := 3) N8.out
                    go_simp
                    replace N7 := Kp.mk (pl_put4o N7.out hne (.int .i64 k2) (.int .i64 l2') (.bool kp2) (.int .i64 chk))
                    replace N8 := Kp.mk (pl_put4 N8.out (.int .i64 k2) (.int .i64 l2') (.bool kp2) (.int .i64 chk))
                    replace HD := Kp.mk (pl_put4b HD.out hB8 (.int .i64 k2) (.int .i64 l2') (.bool kp2) (.int .i64 chk))
                    refine hK.out _ ((((x33.setCell ⟨x31.heap.size, 0, none⟩ (.int .i64 k2)).setCell ⟨x31.heap.size, 1, none⟩ (.int .i64 l2')).setCell ⟨x31.heap.size, 2, none⟩ (.bool kp2)).setCell ⟨x31.heap.size, 3, none⟩ (.int .i64 chk)) (keep20 HD.out hz0 HS0.out) (fun _ => ?_)
                    clear hK K u0 u1 u2 u3 q0 q1 q2 q3
                    try simp only [Act.put, List.setIfInBounds_toArray, List.set_cons_zero, List.set_cons_succ]
                    generalize ((((x33.setCell ⟨x31.heap.size, 0, none⟩ (.int .i64 k2)).setCell ⟨x31.heap.size, 1, none⟩ (.int .i64 l2')).setCell ⟨x31.heap.size, 2, none⟩ (.bool kp2)).setCell ⟨x31.heap.size, 3, none⟩ (.int .i64 chk)) = x34 at *
                    refine wpAnyH_done (by kernel_rfl) ?_ _
                    try go_wp2_with fail
                    try go_meet
                    exact ⟨_, _, rfl, rfl, N7.out, N8.out, HD.out⟩
            refine AllReadyH.cons (o := ⟨some 8, _, _, _, _, none⟩) rfl (fun K hK => ?_) AllReadyH.nil
            ·   go_simp
                have hB8 := HD.out.size
                have N8 := Kp.mk (heap_alloc_new x30 (.cells #[.int .i64 0, .int .i64 0, .bool false, .int .i64 0] 29))
                replace HD := Kp.mk (HD.out.alloc HD.out.size (.cells #[.int .i64 0, .int .i64 0, .bool false, .int .i64 0] 29))
                have hne : wD.heap.size ≠ x30.heap.size := by have := blk_lt N7.out; omega
                replace N7 := Kp.mk (blk_alloc (o2 := .cells #[.int .i64 0, .int .i64 0, .bool false, .int .i64 0] 29) N7.out)
                refine hK.out _ (x30.alloc (.cells #[.int .i64 0, .int .i64 0, .bool false, .int .i64 0] 29)) (keep20 HD.out hz0 HS0.out) (fun _ => ?_)
                clear hK K
                try simp only [Act.put, List.setIfInBounds_toArray, List.set_cons_zero, List.set_cons_succ]
                generalize (x30.alloc (.cells #[.int .i64 0, .int .i64 0, .bool false, .int .i64 0] 29)) = x35 at *
                refine wpAnyH_ready (rs := [6]) (by kernel_rfl) (by simp) ?_
                refine AllReadyH.cons (o := ⟨some 15, _, _, _, _, none⟩) rfl (fun K hK => ?_) AllReadyH.nil
                ·   go_simp
                    (go_at_call 7; refine (HRS.out _).mono ?_; rintro e x36 ⟨rfl, hb1⟩)
                    try go_wp2_with fail
                    replace HD := Kp.mk (HD.out.trans (hb1.mono HD.out.size))
                    replace N7 := Kp.mk ((hb1.block _ (blk_lt N7.out)).trans N7.out)
                    replace N8 := Kp.mk ((hb1.block _ (blk_lt N8.out)).trans N8.out)
                    clear hb1
                    refine hK.out _ _ (keep20 HD.out hz0 HS0.out) (fun _ => ?_)
                    clear hK K
                    try simp only [Act.put, List.setIfInBounds_toArray, List.set_cons_zero, List.set_cons_succ]
                    refine wpAnyH_ready (rs := [9]) (by kernel_rfl) (by simp) ?_
                    refine AllReadyH.cons (o := ⟨none, _, _, _, _, none⟩) rfl (fun K hK => ?_) AllReadyH.nil
                    have u0 := blk_cell (i := 0) N7.out rfl
                    have u1 := blk_cell (i := 1) N7.out rfl
                    have u2 := blk_cell (i := 2) N7.out rfl
                    have u3 := blk_cell (i := 3) N7.out rfl
                    have q0 := blk_free (i := 0) N7.out
                    have q1 := blk_free (i := 1) N7.out
                    have q2 := blk_free (i := 2) N7.out
                    have q3 := blk_free (i := 3) N7.out
                    go_simp
                    replace N8 := Kp.mk (pl_put4o N8.out hne.symm (.int .i64 k) (.int .i64 l) (.bool kp) (.int .i64 0))
                    replace N7 := Kp.mk (pl_put4 N7.out (.int .i64 k) (.int .i64 l) (.bool kp) (.int .i64 0))
                    replace HD := Kp.mk (pl_put4b HD.out hB7 (.int .i64 k) (.int .i64 l) (.bool kp) (.int .i64 0))
                    refine hK.out _ ((((x36.setCell ⟨wD.heap.size, 0, none⟩ (.int .i64 k)).setCell ⟨wD.heap.size, 1, none⟩ (.int .i64 l)).setCell ⟨wD.heap.size, 2, none⟩ (.bool kp)).setCell ⟨wD.heap.size, 3, none⟩ (.int .i64 0)) (keep20 HD.out hz0 HS0.out) (fun _ => ?_)
                    clear hK K u0 u1 u2 u3 q0 q1 q2 q3
                    try simp only [Act.put, List.setIfInBounds_toArray, List.set_cons_zero, List.set_cons_succ]
                    generalize ((((x36.setCell ⟨wD.heap.size, 0, none⟩ (.int .i64 k)).setCell ⟨wD.heap.size, 1, none⟩ (.int .i64 l)).setCell ⟨wD.heap.size, 2, none⟩ (.bool kp)).setCell ⟨wD.heap.size, 3, none⟩ (.int .i64 0)) = x37 at *
                    refine wpAnyH_ready (rs := [10]) (by kernel_rfl) (by simp) ?_
                    refine AllReadyH.cons (o := ⟨none, _, _, _, _, none⟩) rfl (fun K hK => ?_) AllReadyH.nil
                    have u0 := blk_cell (i := 0) N8.out rfl
                    have u1 := blk_cell (i := 1) N8.out rfl
                    have u2 := blk_cell (i := 2) N8.out rfl
                    have u3 := blk_cell (i := 3) N8.out rfl
                    have q0 := blk_free (i := 0) N8.out
                    have q1 := blk_free (i := 1) N8.out
                    have q2 := blk_free (i := 2) N8.out
                    have q3 := blk_free (i := 3) N8.out
                    go_simp
                    replace N7 := Kp.mk (pl_put4o N7.out hne (.int .i64 k2) (.int .i64 l2') (.bool kp2) (.int .i64 chk))
                    replace N8 := Kp.mk (pl_put4 N8.out (.int .i64 k2) (.int .i64 l2') (.bool kp2) (.int .i64 chk))
                    replace HD := Kp.mk (pl_put4b HD.out hB8 (.int .i64 k2) (.int .i64 l2') (.bool kp2) (.int .i64 chk))
                    refine hK.out _ ((((x37.setCell ⟨x30.heap.size, 0, none⟩ (.int .i64 k2)).setCell ⟨x30.heap.size, 1, none⟩ (.int .i64 l2')).setCell ⟨x30.heap.size, 2, none⟩ (.bool kp2)).setCell ⟨x30.heap.size, 3, none⟩ (.int .i64 chk)) (keep20 HD.out hz0 HS0.out) (fun _ => ?_)
                    clear hK K u0 u1 u2 u3 q0 q1 q2 q3
                    try simp only [Act.put, List.setIfInBounds_toArray, List.set_cons_zero, List.set_cons_succ]
                    generalize ((((x37.setCell ⟨x30.heap.size, 0, none⟩ (.int .i64 k2)).setCell ⟨x30.heap.size, 1, none⟩ (.int .i64 l2')).setCell ⟨x30.heap.size, 2, none⟩ (.bool kp2)).setCell ⟨x30.heap.size, 3, none⟩ (.int .i64 chk)) = x38 at *
                    refine wpAnyH_done (by kernel_rfl) ?_ _
                    try go_wp2_with fail
                    try go_meet
                    exact ⟨_, _, rfl, rfl, N7.out, N8.out, HD.out⟩
        refine AllReadyH.cons (o := ⟨some 8, _, _, _, _, none⟩) rfl (fun K hK => ?_) AllReadyH.nil
        ·   go_simp
            have hB8 := HD.out.size
            have N8 := Kp.mk (heap_alloc_new x29 (.cells #[.int .i64 0, .int .i64 0, .bool false, .int .i64 0] 29))
            replace HD := Kp.mk (HD.out.alloc HD.out.size (.cells #[.int .i64 0, .int .i64 0, .bool false, .int .i64 0] 29))
            have hne : wD.heap.size ≠ x29.heap.size := by have := blk_lt N7.out; omega
            replace N7 := Kp.mk (blk_alloc (o2 := .cells #[.int .i64 0, .int .i64 0, .bool false, .int .i64 0] 29) N7.out)
            refine hK.out _ (x29.alloc (.cells #[.int .i64 0, .int .i64 0, .bool false, .int .i64 0] 29)) (keep20 HD.out hz0 HS0.out) (fun _ => ?_)
            clear hK K
            try simp only [Act.put, List.setIfInBounds_toArray, List.set_cons_zero, List.set_cons_succ]
            generalize (x29.alloc (.cells #[.int .i64 0, .int .i64 0, .bool false, .int .i64 0] 29)) = x39 at *
            refine wpAnyH_ready (rs := [2]) (by kernel_rfl) (by simp) ?_
            refine AllReadyH.cons (o := ⟨some 11, _, _, _, _, none⟩) rfl (fun K hK => ?_) AllReadyH.nil
            ·   go_simp
                (go_at_call 6; refine (HRQ.out _).mono ?_; rintro e x40 ⟨rfl, hb1⟩)
                try go_wp2_with fail
                replace HD := Kp.mk (HD.out.trans (hb1.mono HD.out.size))
                replace N7 := Kp.mk ((hb1.block _ (blk_lt N7.out)).trans N7.out)
                replace N8 := Kp.mk ((hb1.block _ (blk_lt N8.out)).trans N8.out)
                clear hb1
                refine hK.out _ _ (keep20 HD.out hz0 HS0.out) (fun _ => ?_)
                clear hK K
                try simp only [Act.put, List.setIfInBounds_toArray, List.set_cons_zero, List.set_cons_succ]
                refine wpAnyH_ready (rs := [6]) (by kernel_rfl) (by simp) ?_
                refine AllReadyH.cons (o := ⟨some 15, _, _, _, _, none⟩) rfl (fun K hK => ?_) AllReadyH.nil
                ·   go_simp
                    (go_at_call 7; refine (HRS.out _).mono ?_; rintro e x41 ⟨rfl, hb1⟩)
                    try go_wp2_with fail
                    replace HD := Kp.mk (HD.out.trans (hb1.mono HD.out.size))
                    replace N7 := Kp.mk ((hb1.block _ (blk_lt N7.out)).trans N7.out)
                    replace N8 := Kp.mk ((hb1.block _ (blk_lt N8.out)).trans N8.out)
                    clear hb1
                    refine hK.out _ _ (keep20 HD.out hz0 HS0.out) (fun _ => ?_)
                    clear hK K
                    try simp only [Act.put, List.setIfInBounds_toArray, List.set_cons_zero, List.set_cons_succ]
                    refine wpAnyH_ready (rs := [9]) (by kernel_rfl) (by simp) ?_
                    refine AllReadyH.cons (o := ⟨none, _, _, _, _, none⟩) rfl (fun K hK => ?_) AllReadyH.nil
                    have u0 := blk_cell (i := 0) N7.out rfl
                    have u1 := blk_cell (i := 1) N7.out rfl
                    have u2 := blk_cell (i := 2) N7.out rfl
                    have u3 := blk_cell (i := 3) N7.out rfl
                    have q0 := blk_free (i := 0) N7.out
                    have q1 := blk_free (i := 1) N7.out
                    have q2 := blk_free (i := 2) N7.out
                    have q3 := blk_free (i := 3) N7.out
                    go_simp
                    replace N8 := Kp.mk (pl_put4o N8.out hne.symm (.int .i64 k) (.int .i64 l) (.bool kp) (.int .i64 0))
                    replace N7 := Kp.mk (pl_put4 N7.out (.int .i64 k) (.int .i64 l) (.bool kp) (.int .i64 0))
                    replace HD := Kp.mk (pl_put4b HD.out hB7 (.int .i64 k) (.int .i64 l) (.bool kp) (.int .i64 0))
                    refine hK.out _ ((((x41.setCell ⟨wD.heap.size, 0, none⟩ (.int .i64 k)).setCell ⟨wD.heap.size, 1, none⟩ (.int .i64 l)).setCell ⟨wD.heap.size, 2, none⟩ (.bool kp)).setCell ⟨wD.heap.size, 3, none⟩ (.int .i64 0)) (keep20 HD.out hz0 HS0.out) (fun _ => ?_)
                    clear hK K u0 u1 u2 u3 q0 q1 q2 q3
                    try simp only [Act.put, List.setIfInBounds_toArray, List.set_cons_zero, List.set_cons_succ]
                    generalize ((((x41.setCell ⟨wD.heap.size, 0, none⟩ (.int .i64 k)).setCell ⟨wD.heap.size, 1, none⟩ (.int .i64 l)).setCell ⟨wD.heap.size, 2, none⟩ (.bool kp)).setCell ⟨wD.heap.size, 3, none⟩ (.int .i64 0)) = x42 at *
                    refine wpAnyH_ready (rs := [10]) (by kernel_rfl) (by simp) ?_
                    refine AllReadyH.cons (o := ⟨none, _, _, _, _, none⟩) rfl (fun K hK => ?_) AllReadyH.nil
                    have u0 := blk_cell (i := 0) N8.out rfl
                    have u1 := blk_cell (i := 1) N8.out rfl
                    have u2 := blk_cell (i := 2) N8.out rfl
                    have u3 := blk_cell (i := 3) N8.out rfl
                    have q0 := blk_free (i := 0) N8.out
                    have q1 := blk_free (i := 1) N8.out
                    have q2 := blk_free (i := 2) N8.out
                    have q3 := blk_free (i := 3) N8.out
                    go_simp
                    replace N7 := Kp.mk (pl_put4o N7.out hne (.int .i64 k2) (.int .i64 l2') (.bool kp2) (.int .i64 chk))
                    replace N8 := Kp.mk (pl_put4 N8.out (.int .i64 k2) (.int .i64 l2') (.bool kp2) (.int .i64 chk))
                    replace HD := Kp.mk (pl_put4b HD.out hB8 (.int .i64 k2) (.int .i64 l2') (.bool kp2) (.int .i64 chk))
                    refine hK.out _ ((((x42.setCell ⟨x29.heap.size, 0, none⟩ (.int .i64 k2)).setCell ⟨x29.heap.size, 1, none⟩ (.int .i64 l2')).setCell ⟨x29.heap.size, 2, none⟩ (.bool kp2)).setCell ⟨x29.heap.size, 3, none⟩ (.int .i64 chk)) (keep20 HD.out hz0 HS0.out) (fun _ => ?_)
                    clear hK K u0 u1 u2 u3 q0 q1 q2 q3
                    try simp only [Act.put, List.setIfInBounds_toArray, List.set_cons_zero, List.set_cons_succ]
                    generalize ((((x42.setCell ⟨x29.heap.size, 0, none⟩ (.int .i64 k2)).setCell ⟨x29.heap.size, 1, none⟩ (.int .i64 l2')).setCell ⟨x29.heap.size, 2, none⟩ (.bool kp2)).setCell ⟨x29.heap.size, 3, none⟩ (.int .i64 chk)) = x43 at *
                    refine wpAnyH_done (by kernel_rfl) ?_ _
                    try go_wp2_with fail
                    try go_meet
                    exact ⟨_, _, rfl, rfl, N7.out, N8.out, HD.out⟩
    refine AllReadyH.cons (o := ⟨some 8, _, _, _, _, none⟩) rfl (fun K hK => ?_) AllReadyH.nil
    ·   go_simp
        have hB8 := HD.out.size
        have N8 := Kp.mk (heap_alloc_new wD (.cells #[.int .i64 0, .int .i64 0, .bool false, .int .i64 0] 29))
        replace HD := Kp.mk (HD.out.alloc HD.out.size (.cells #[.int .i64 0, .int .i64 0, .bool false, .int .i64 0] 29))
        refine hK.out _ (wD.alloc (.cells #[.int .i64 0, .int .i64 0, .bool false, .int .i64 0] 29)) (keep20 HD.out hz0 HS0.out) (fun _ => ?_)
        clear hK K
        try simp only [Act.put, List.setIfInBounds_toArray, List.set_cons_zero, List.set_cons_succ]
        generalize (wD.alloc (.cells #[.int .i64 0, .int .i64 0, .bool false, .int .i64 0] 29)) = x44 at *
        refine wpAnyH_ready (rs := [2, 7]) (by kernel_rfl) (by simp) ?_
        refine AllReadyH.cons (o := ⟨some 11, _, _, _, _, none⟩) rfl (fun K hK => ?_) ?_
        ·   go_simp
            (go_at_call 6; refine (HRQ.out _).mono ?_; rintro e x45 ⟨rfl, hb1⟩)
            try go_wp2_with fail
            replace HD := Kp.mk (HD.out.trans (hb1.mono HD.out.size))
            replace N8 := Kp.mk ((hb1.block _ (blk_lt N8.out)).trans N8.out)
            clear hb1
            refine hK.out _ _ (keep20 HD.out hz0 HS0.out) (fun _ => ?_)
            clear hK K
            try simp only [Act.put, List.setIfInBounds_toArray, List.set_cons_zero, List.set_cons_succ]
            refine wpAnyH_ready (rs := [6, 7]) (by kernel_rfl) (by simp) ?_
            refine AllReadyH.cons (o := ⟨some 15, _, _, _, _, none⟩) rfl (fun K hK => ?_) ?_
            ·   go_simp
                (go_at_call 7; refine (HRS.out _).mono ?_; rintro e x46 ⟨rfl, hb1⟩)
                try go_wp2_with fail
                replace HD := Kp.mk (HD.out.trans (hb1.mono HD.out.size))
                replace N8 := Kp.mk ((hb1.block _ (blk_lt N8.out)).trans N8.out)
                clear hb1
                refine hK.out _ _ (keep20 HD.out hz0 HS0.out) (fun _ => ?_)
                clear hK K
                try simp only [Act.put, List.setIfInBounds_toArray, List.set_cons_zero, List.set_cons_succ]
                refine wpAnyH_ready (rs := [7]) (by kernel_rfl) (by simp) ?_
                refine AllReadyH.cons (o := ⟨some 7, _, _, _, _, none⟩) rfl (fun K hK => ?_) AllReadyH.nil
                ·   go_simp
                    have hB7 := HD.out.size
                    have N7 := Kp.mk (heap_alloc_new x46 (.cells #[.int .i64 0, .int .i64 0, .bool false, .int .i64 0] 29))
                    replace HD := Kp.mk (HD.out.alloc HD.out.size (.cells #[.int .i64 0, .int .i64 0, .bool false, .int .i64 0] 29))
                    have hne : wD.heap.size ≠ x46.heap.size := by have := blk_lt N8.out; omega
                    replace N8 := Kp.mk (blk_alloc (o2 := .cells #[.int .i64 0, .int .i64 0, .bool false, .int .i64 0] 29) N8.out)
                    refine hK.out _ (x46.alloc (.cells #[.int .i64 0, .int .i64 0, .bool false, .int .i64 0] 29)) (keep20 HD.out hz0 HS0.out) (fun _ => ?_)
                    clear hK K
                    try simp only [Act.put, List.setIfInBounds_toArray, List.set_cons_zero, List.set_cons_succ]
                    generalize (x46.alloc (.cells #[.int .i64 0, .int .i64 0, .bool false, .int .i64 0] 29)) = x47 at *
                    refine wpAnyH_ready (rs := [9]) (by kernel_rfl) (by simp) ?_
                    refine AllReadyH.cons (o := ⟨none, _, _, _, _, none⟩) rfl (fun K hK => ?_) AllReadyH.nil
                    have u0 := blk_cell (i := 0) N7.out rfl
                    have u1 := blk_cell (i := 1) N7.out rfl
                    have u2 := blk_cell (i := 2) N7.out rfl
                    have u3 := blk_cell (i := 3) N7.out rfl
                    have q0 := blk_free (i := 0) N7.out
                    have q1 := blk_free (i := 1) N7.out
                    have q2 := blk_free (i := 2) N7.out
                    have q3 := blk_free (i := 3) N7.out
                    go_simp
                    replace N8 := Kp.mk (pl_put4o N8.out hne (.int .i64 k) (.int .i64 l) (.bool kp) (.int .i64 0))
                    replace N7 := Kp.mk (pl_put4 N7.out (.int .i64 k) (.int .i64 l) (.bool kp) (.int .i64 0))
                    replace HD := Kp.mk (pl_put4b HD.out hB7 (.int .i64 k) (.int .i64 l) (.bool kp) (.int .i64 0))
                    refine hK.out _ ((((x47.setCell ⟨x46.heap.size, 0, none⟩ (.int .i64 k)).setCell ⟨x46.heap.size, 1, none⟩ (.int .i64 l)).setCell ⟨x46.heap.size, 2, none⟩ (.bool kp)).setCell ⟨x46.heap.size, 3, none⟩ (.int .i64 0)) (keep20 HD.out hz0 HS0.out) (fun _ => ?_)
                    clear hK K u0 u1 u2 u3 q0 q1 q2 q3
                    try simp only [Act.put, List.setIfInBounds_toArray, List.set_cons_zero, List.set_cons_succ]
                    generalize ((((x47.setCell ⟨x46.heap.size, 0, none⟩ (.int .i64 k)).setCell ⟨x46.heap.size, 1, none⟩ (.int .i64 l)).setCell ⟨x46.heap.size, 2, none⟩ (.bool kp)).setCell ⟨x46.heap.size, 3, none⟩ (.int .i64 0)) = x48 at *
                    refine wpAnyH_ready (rs := [10]) (by kernel_rfl) (by simp) ?_
                    refine AllReadyH.cons (o := ⟨none, _, _, _, _, none⟩) rfl (fun K hK => ?_) AllReadyH.nil
                    have u0 := blk_cell (i := 0) N8.out rfl
                    have u1 := blk_cell (i := 1) N8.out rfl
                    have u2 := blk_cell (i := 2) N8.out rfl
                    have u3 := blk_cell (i := 3) N8.out rfl
                    have q0 := blk_free (i := 0) N8.out
                    have q1 := blk_free (i := 1) N8.out
                    have q2 := blk_free (i := 2) N8.out
                    have q3 := blk_free (i := 3) N8.out
                    go_simp
                    replace N7 := Kp.mk (pl_put4o N7.out hne.symm (.int .i64 k2) (.int .i64 l2') (.bool kp2) (.int .i64 chk))
                    replace N8 := Kp.mk (pl_put4 N8.out (.int .i64 k2) (.int .i64 l2') (.bool kp2) (.int .i64 chk))
                    replace HD := Kp.mk (pl_put4b HD.out hB8 (.int .i64 k2) (.int .i64 l2') (.bool kp2) (.int .i64 chk))
                    refine hK.out _ ((((x48.setCell ⟨wD.heap.size, 0, none⟩ (.int .i64 k2)).setCell ⟨wD.heap.size, 1, none⟩ (.int .i64 l2')).setCell ⟨wD.heap.size, 2, none⟩ (.bool kp2)).setCell ⟨wD.heap.size, 3, none⟩ (.int .i64 chk)) (keep20 HD.out hz0 HS0.out) (fun _ => ?_)
                    clear hK K u0 u1 u2 u3 q0 q1 q2 q3
                    try simp only [Act.put, List.setIfInBounds_toArray, List.set_cons_zero, List.set_cons_succ]
                    generalize ((((x48.setCell ⟨wD.heap.size, 0, none⟩ (.int .i64 k2)).setCell ⟨wD.heap.size, 1, none⟩ (.int .i64 l2')).setCell ⟨wD.heap.size, 2, none⟩ (.bool kp2)).setCell ⟨wD.heap.size, 3, none⟩ (.int .i64 chk)) = x49 at *
                    refine wpAnyH_done (by kernel_rfl) ?_ _
                    try go_wp2_with fail
                    try go_meet
                    exact ⟨_, _, rfl, rfl, N7.out, N8.out, HD.out⟩
            refine AllReadyH.cons (o := ⟨some 7, _, _, _, _, none⟩) rfl (fun K hK => ?_) AllReadyH.nil
            ·   go_simp
                have hB7 := HD.out.size
                have N7 := Kp.mk (heap_alloc_new x45 (.cells #[.int .i64 0, .int .i64 0, .bool false, .int .i64 0] 29))
                replace HD := Kp.mk (HD.out.alloc HD.out.size (.cells #[.int .i64 0, .int .i64 0, .bool false, .int .i64 0] 29))
                have hne : wD.heap.size ≠ x45.heap.size := by have := blk_lt N8.out; omega
                replace N8 := Kp.mk (blk_alloc (o2 := .cells #[.int .i64 0, .int .i64 0, .bool false, .int .i64 0] 29) N8.out)
                refine hK.out _ (x45.alloc (.cells #[.int .i64 0, .int .i64 0, .bool false, .int .i64 0] 29)) (keep20 HD.out hz0 HS0.out) (fun _ => ?_)
                clear hK K
                try simp only [Act.put, List.setIfInBounds_toArray, List.set_cons_zero, List.set_cons_succ]
                generalize (x45.alloc (.cells #[.int .i64 0, .int .i64 0, .bool false, .int .i64 0] 29)) = x50 at *
                refine wpAnyH_ready (rs := [6]) (by kernel_rfl) (by simp) ?_
                refine AllReadyH.cons (o := ⟨some 15, _, _, _, _, none⟩) rfl (fun K hK => ?_) AllReadyH.nil
                ·   go_simp
                    (go_at_call 7; refine (HRS.out _).mono ?_; rintro e x51 ⟨rfl, hb1⟩)
                    try go_wp2_with fail
                    replace HD := Kp.mk (HD.out.trans (hb1.mono HD.out.size))
                    replace N7 := Kp.mk ((hb1.block _ (blk_lt N7.out)).trans N7.out)
                    replace N8 := Kp.mk ((hb1.block _ (blk_lt N8.out)).trans N8.out)
                    clear hb1
                    refine hK.out _ _ (keep20 HD.out hz0 HS0.out) (fun _ => ?_)
                    clear hK K
                    try simp only [Act.put, List.setIfInBounds_toArray, List.set_cons_zero, List.set_cons_succ]
                    refine wpAnyH_ready (rs := [9]) (by kernel_rfl) (by simp) ?_
                    refine AllReadyH.cons (o := ⟨none, _, _, _, _, none⟩) rfl (fun K hK => ?_) AllReadyH.nil
                    have u0 := blk_cell (i := 0) N7.out rfl
                    have u1 := blk_cell (i := 1) N7.out rfl
                    have u2 := blk_cell (i := 2) N7.out rfl
                    have u3 := blk_cell (i := 3) N7.out rfl
                    have q0 := blk_free (i := 0) N7.out
                    have q1 := blk_free (i := 1) N7.out
                    have q2 := blk_free (i := 2) N7.out
                    have q3 := blk_free (i := 3) N7.out
                    go_simp
                    replace N8 := Kp.mk (pl_put4o N8.out hne (.int .i64 k) (.int .i64 l) (.bool kp) (.int .i64 0))
                    replace N7 := Kp.mk (pl_put4 N7.out (.int .i64 k) (.int .i64 l) (.bool kp) (.int .i64 0))
                    replace HD := Kp.mk (pl_put4b HD.out hB7 (.int .i64 k) (.int .i64 l) (.bool kp) (.int .i64 0))
                    refine hK.out _ ((((x51.setCell ⟨x45.heap.size, 0, none⟩ (.int .i64 k)).setCell ⟨x45.heap.size, 1, none⟩ (.int .i64 l)).setCell ⟨x45.heap.size, 2, none⟩ (.bool kp)).setCell ⟨x45.heap.size, 3, none⟩ (.int .i64 0)) (keep20 HD.out hz0 HS0.out) (fun _ => ?_)
                    clear hK K u0 u1 u2 u3 q0 q1 q2 q3
                    try simp only [Act.put, List.setIfInBounds_toArray, List.set_cons_zero, List.set_cons_succ]
                    generalize ((((x51.setCell ⟨x45.heap.size, 0, none⟩ (.int .i64 k)).setCell ⟨x45.heap.size, 1, none⟩ (.int .i64 l)).setCell ⟨x45.heap.size, 2, none⟩ (.bool kp)).setCell ⟨x45.heap.size, 3, none⟩ (.int .i64 0)) = x52 at *
                    refine wpAnyH_ready (rs := [10]) (by kernel_rfl) (by simp) ?_
                    refine AllReadyH.cons (o := ⟨none, _, _, _, _, none⟩) rfl (fun K hK => ?_) AllReadyH.nil
                    have u0 := blk_cell (i := 0) N8.out rfl
                    have u1 := blk_cell (i := 1) N8.out rfl
                    have u2 := blk_cell (i := 2) N8.out rfl
                    have u3 := blk_cell (i := 3) N8.out rfl
                    have q0 := blk_free (i := 0) N8.out
                    have q1 := blk_free (i := 1) N8.out
                    have q2 := blk_free (i := 2) N8.out
                    have q3 := blk_free (i := 3) N8.out
                    go_simp
                    replace N7 := Kp.mk (pl_put4o N7.out hne.symm (.int .i64 k2) (.int .i64 l2') (.bool kp2) (.int .i64 chk))
                    replace N8 := Kp.mk (pl_put4 N8.out (.int .i64 k2) (.int .i64 l2') (.bool kp2) (.int .i64 chk))
                    replace HD := Kp.mk (pl_put4b HD.out hB8 (.int .i64 k2) (.int .i64 l2') (.bool kp2) (.int .i64 chk))
                    refine hK.out _ ((((x52.setCell ⟨wD.heap.size, 0, none⟩ (.int .i64 k2)).setCell ⟨wD.heap.size, 1, none⟩ (.int .i64 l2')).setCell ⟨wD.heap.size, 2, none⟩ (.bool kp2)).setCell ⟨wD.heap.size, 3, none⟩ (.int .i64 chk)) (keep20 HD.out hz0 HS0.out) (fun _ => ?_)
                    clear hK K u0 u1 u2 u3 q0 q1 q2 q3
                    try simp only [Act.put, List.setIfInBounds_toArray, List.set_cons_zero, List.set_cons_succ]
                    generalize ((((x52.setCell ⟨wD.heap.size, 0, none⟩ (.int .i64 k2)).setCell ⟨wD.heap.size, 1, none⟩ (.int .i64 l2')).setCell ⟨wD.heap.size, 2, none⟩ (.bool kp2)).setCell ⟨wD.heap.size, 3, none⟩ (.int .i64 chk)) = x53 at *
                    refine wpAnyH_done (by kernel_rfl) ?_ _
                    try go_wp2_with fail
                    try go_meet
                    exact ⟨_, _, rfl, rfl, N7.out, N8.out, HD.out⟩
        refine AllReadyH.cons (o := ⟨some 7, _, _, _, _, none⟩) rfl (fun K hK => ?_) AllReadyH.nil
        ·   go_simp
            have hB7 := HD.out.size
            have N7 := Kp.mk (heap_alloc_new x44 (.cells #[.int .i64 0, .int .i64 0, .bool false, .int .i64 0] 29))
            replace HD := Kp.mk (HD.out.alloc HD.out.size (.cells #[.int .i64 0, .int .i64 0, .bool false, .int .i64 0] 29))
            have hne : wD.heap.size ≠ x44.heap.size := by have := blk_lt N8.out; omega
            replace N8 := Kp.mk (blk_alloc (o2 := .cells #[.int .i64 0, .int .i64 0, .bool false, .int .i64 0] 29) N8.out)
            refine hK.out _ (x44.alloc (.cells #[.int .i64 0, .int .i64 0, .bool false, .int .i64 0] 29)) (keep20 HD.out hz0 HS0.out) (fun _ => ?_)
            clear hK K
            try simp only [Act.put, List.setIfInBounds_toArray, List.set_cons_zero, List.set_cons_succ]
            generalize (x44.alloc (.cells #[.int .i64 0, .int .i64 0, .bool false, .int .i64 0] 29)) = x54 at *
            refine wpAnyH_ready (rs := [2]) (by kernel_rfl) (by simp) ?_
            refine AllReadyH.cons (o := ⟨some 11, _, _, _, _, none⟩) rfl (fun K hK => ?_) AllReadyH.nil
            ·   go_simp
                (go_at_call 6; refine (HRQ.out _).mono ?_; rintro e x55 ⟨rfl, hb1⟩)
                try go_wp2_with fail
                replace HD := Kp.mk (HD.out.trans (hb1.mono HD.out.size))
                replace N7 := Kp.mk ((hb1.block _ (blk_lt N7.out)).trans N7.out)
                replace N8 := Kp.mk ((hb1.block _ (blk_lt N8.out)).trans N8.out)
                clear hb1
                refine hK.out _ _ (keep20 HD.out hz0 HS0.out) (fun _ => ?_)
                clear hK K
                try simp only [Act.put, List.setIfInBounds_toArray, List.set_cons_zero, List.set_cons_succ]
                refine wpAnyH_ready (rs := [6]) (by kernel_rfl) (by simp) ?_
                refine AllReadyH.cons (o := ⟨some 15, _, _, _, _, none⟩) rfl (fun K hK => ?_) AllReadyH.nil
                ·   go_simp
                    (go_at_call 7; refine (HRS.out _).mono ?_; rintro e x56 ⟨rfl, hb1⟩)
                    try go_wp2_with fail
                    replace HD := Kp.mk (HD.out.trans (hb1.mono HD.out.size))
                    replace N7 := Kp.mk ((hb1.block _ (blk_lt N7.out)).trans N7.out)
                    replace N8 := Kp.mk ((hb1.block _ (blk_lt N8.out)).trans N8.out)
                    clear hb1
                    refine hK.out _ _ (keep20 HD.out hz0 HS0.out) (fun _ => ?_)
                    clear hK K
                    try simp only [Act.put, List.setIfInBounds_toArray, List.set_cons_zero, List.set_cons_succ]
                    refine wpAnyH_ready (rs := [9]) (by kernel_rfl) (by simp) ?_
                    refine AllReadyH.cons (o := ⟨none, _, _, _, _, none⟩) rfl (fun K hK => ?_) AllReadyH.nil
                    have u0 := blk_cell (i := 0) N7.out rfl
                    have u1 := blk_cell (i := 1) N7.out rfl
                    have u2 := blk_cell (i := 2) N7.out rfl
                    have u3 := blk_cell (i := 3) N7.out rfl
                    have q0 := blk_free (i := 0) N7.out
                    have q1 := blk_free (i := 1) N7.out
                    have q2 := blk_free (i := 2) N7.out
                    have q3 := blk_free (i := 3) N7.out
                    go_simp
                    replace N8 := Kp.mk (pl_put4o N8.out hne (.int .i64 k) (.int .i64 l) (.bool kp) (.int .i64 0))
                    replace N7 := Kp.mk (pl_put4 N7.out (.int .i64 k) (.int .i64 l) (.bool kp) (.int .i64 0))
                    replace HD := Kp.mk (pl_put4b HD.out hB7 (.int .i64 k) (.int .i64 l) (.bool kp) (.int .i64 0))
                    refine hK.out _ ((((x56.setCell ⟨x44.heap.size, 0, none⟩ (.int .i64 k)).setCell ⟨x44.heap.size, 1, none⟩ (.int .i64 l)).setCell ⟨x44.heap.size, 2, none⟩ (.bool kp)).setCell ⟨x44.heap.size, 3, none⟩ (.int .i64 0)) (keep20 HD.out hz0 HS0.out) (fun _ => ?_)
                    clear hK K u0 u1 u2 u3 q0 q1 q2 q3
                    try simp only [Act.put, List.setIfInBounds_toArray, List.set_cons_zero, List.set_cons_succ]
                    generalize ((((x56.setCell ⟨x44.heap.size, 0, none⟩ (.int .i64 k)).setCell ⟨x44.heap.size, 1, none⟩ (.int .i64 l)).setCell ⟨x44.heap.size, 2, none⟩ (.bool kp)).setCell ⟨x44.heap.size, 3, none⟩ (.int .i64 0)) = x57 at *
                    refine wpAnyH_ready (rs := [10]) (by kernel_rfl) (by simp) ?_
                    refine AllReadyH.cons (o := ⟨none, _, _, _, _, none⟩) rfl (fun K hK => ?_) AllReadyH.nil
                    have u0 := blk_cell (i := 0) N8.out rfl
                    have u1 := blk_cell (i := 1) N8.out rfl
                    have u2 := blk_cell (i := 2) N8.out rfl
                    have u3 := blk_cell (i := 3) N8.out rfl
                    have q0 := blk_free (i := 0) N8.out
                    have q1 := blk_free (i := 1) N8.out
                    have q2 := blk_free (i := 2) N8.out
                    have q3 := blk_free (i := 3) N8.out
                    go_simp
                    replace N7 := Kp.mk (pl_put4o N7.out hne.symm (.int .i64 k2) (.int .i64 l2') (.bool kp2) (.int .i64 chk))
                    replace N8 := Kp.mk (pl_put4 N8.out (.int .i64 k2) (.int .i64 l2') (.bool kp2) (.int .i64 chk))
                    replace HD := Kp.mk (pl_put4b HD.out hB8 (.int .i64 k2) (.int .i64 l2') (.bool kp2) (.int .i64 chk))
                    refine hK.out _ ((((x57.setCell ⟨wD.heap.size, 0, none⟩ (.int .i64 k2)).setCell ⟨wD.heap.size, 1, none⟩ (.int .i64 l2')).setCell ⟨wD.heap.size, 2, none⟩ (.bool kp2)).setCell ⟨wD.heap.size, 3, none⟩ (.int .i64 chk)) (keep20 HD.out hz0 HS0.out) (fun _ => ?_)
                    clear hK K u0 u1 u2 u3 q0 q1 q2 q3
                    try simp only [Act.put, List.setIfInBounds_toArray, List.set_cons_zero, List.set_cons_succ]
                    generalize ((((x57.setCell ⟨wD.heap.size, 0, none⟩ (.int .i64 k2)).setCell ⟨wD.heap.size, 1, none⟩ (.int .i64 l2')).setCell ⟨wD.heap.size, 2, none⟩ (.bool kp2)).setCell ⟨wD.heap.size, 3, none⟩ (.int .i64 chk)) = x58 at *
                    refine wpAnyH_done (by kernel_rfl) ?_ _
                    try go_wp2_with fail
                    try go_meet
                    exact ⟨_, _, rfl, rfl, N7.out, N8.out, HD.out⟩
  case rest =>
    obtain ⟨b7, b8, rfl, rfl, N7, N8, hb⟩ := hcut
    have d := keep20 hb hz0 HS0.out
    obtain ⟨⟨d1, d2⟩, d⟩ := d
    have d3 := d 2 _ rfl
    have d4 := d 3 _ rfl
    rw [Nat.zero_add] at d3 d4
    clear d
    have HB := Kp.mk (HB0.out.trans (hb.mono (by omega)))
    clear hb HS0 HRQ HRS
    have u0 := blk_cell (i := 0) N7 rfl
    have u1 := blk_cell (i := 1) N7 rfl
    have u2 := blk_cell (i := 2) N7 rfl
    have t0 := blk_cell (i := 0) N8 rfl
    have t1 := blk_cell (i := 1) N8 rfl
    have t2 := blk_cell (i := 2) N8 rfl
    clear N7 N8 HB0
    rcases HQ.out with ⟨rfl, hq1, rfl, rfl, rfl⟩ | ⟨rfl, hq1, rfl, rfl, rfl⟩ | ⟨rfl, rfl, rfl, rfl⟩ | ⟨rfl, rfl, rfl, rfl⟩ | ⟨hq1, rfl, rfl, rfl⟩ <;>
      rcases HP.out with ⟨hp0, hp1, hp2, rfl, rfl, rfl, rfl⟩ | ⟨hp0, hp1, rfl, rfl, rfl, rfl, rfl⟩ | ⟨hp0, hp1, rfl, rfl, rfl, rfl⟩ | ⟨hp0, hp1, rfl, rfl, rfl, rfl⟩ | ⟨hp0, hp1, rfl, rfl, rfl, rfl⟩ | ⟨hp0, rfl, rfl, rfl, rfl⟩ | ⟨hp0, rfl, rfl, rfl, rfl⟩ | ⟨hp0, rfl, rfl, rfl, rfl⟩ <;>
      first
        | (exfalso; omega)
        | skip
    all_goals
          clear HQ HP
          (try subst hp0)
          (try have hp3 : ¬ minor ≤ 0 := by omega)
          (try have hp4 : ¬ 0 < minor := by omega)
          (try have hq3 : ¬ cm ≤ 0 := by omega)
          (try have hq4 : (kind == 3) = false := by rw [beq_eq_false_iff_ne]; omega)
          (try have hq5 : (kind == 1) = false := by rw [beq_eq_false_iff_ne]; omega)
          (try have hq6 : (kind == 2) = false := by rw [beq_eq_false_iff_ne]; omega)
          go_wp2_with fail
    all_goals
          refine (lives36 _).mono ?_
          rintro e w9 ⟨rfl, hb9⟩
          go_wp2_with fail
          go_ret
          exact ⟨rfl, HB.out.trans (hb9.mono HB.out.size)⟩
end Go.Proofs.Ytgkbaijnbohjdaa
