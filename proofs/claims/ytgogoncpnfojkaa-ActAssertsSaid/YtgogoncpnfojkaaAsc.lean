/- Steps (layer 44): the law ActAsserts. -/
import Derived.Test.YtgogoncpnfojkaaAsb
import Derived.Test.YtgogoncpnfojkaaAcw
import Derived.Test.YtgogoncpnfojkaaQs
import Derived.Deep.Cut
namespace Go.Proofs.Ytgogoncpnfojkaa
open Go.RowKit
set_option linter.unusedVariables false
set_option linter.unusedSimpArgs false

/-- The boxes of the law. -/
structure AB (b5 b7 b9 : Nat) (e s k : Array Value) (w W : World) : Prop where
  h0 : W.heap[w.heap.size]? = some (.cells e 87 (0, 0))
  h5 : W.heap[b5]? = some (.cells s 93 (0, 0))
  h7 : W.heap[b7]? = some (.cells s 93 (0, 0))
  h9 : W.heap[b9]? = some (.cells k 85 (0, 0))
  bel : Below w.heap.size w W
theorem AB.below {b5 b7 b9 : Nat} {e s k : Array Value} {w W W' : World} (h : AB b5 b7 b9 e s k w W) (hb : Below W.heap.size W W') : AB b5 b7 b9 e s k w W' :=
  ⟨(hb.block _ (blk_lt h.h0)).trans h.h0, (hb.block _ (blk_lt h.h5)).trans h.h5, (hb.block _ (blk_lt h.h7)).trans h.h7, (hb.block _ (blk_lt h.h9)).trans h.h9, h.bel.trans (hb.mono h.bel.size)⟩
set_option maxRecDepth 100000 in
set_option maxHeartbeats 4000000 in
theorem aa_want (c o n : Int) (t T : ByteArray) (A : Value) (w : World) (ht : (t.size ≤ 6000 ∧ T = t) ∨ (¬ t.size ≤ 6000 ∧ T = t.extract 0 6000))
    (hOf : ∀ w, Calls Try.prog 50 #[.agg #[.int .i64 2, .int .i64 c, .int .i64 o, .int .i64 n, .string T]] w fun e w' => e = .returned (.tuple #[A, .bool true]) ∧ Below w.heap.size w w')
    (hSent : ∀ w, Calls Try.prog 51 #[A] w fun e w' => e = .returned (.tuple #[.agg #[.int .i64 c, .int .i64 o, .string T], .bool true]) ∧ Below w.heap.size w w')
    (hTried : ∀ w, Calls Try.prog 52 #[A] w fun e w' => e = .returned (.tuple #[.agg #[.int .i64 c, .int .i64 o, .string T], .bool true]) ∧ Below w.heap.size w w')
    (hConn : ∀ w, Calls Try.prog 53 #[A] w fun e w' => e = .returned (.tuple #[.agg #[.int .i64 c, .int .i64 o], .bool true]) ∧ Below w.heap.size w w')
    (hRight : ∀ w, Calls Try.prog 54 #[.agg #[.int .i64 2, .int .i64 c, .int .i64 o, .int .i64 n, .string T]] w fun e w' => e = .returned (.bool true) ∧ Below w.heap.size w w')
    (hMust : ∀ w, Calls Try.prog 55 #[A] w fun e w' => e = .returned (.agg #[.int .i64 c, .int .i64 o, .string T]) ∧ Below w.heap.size w w') :
    Calls Try.prog 10 #[.agg #[.int .i64 2, .int .i64 c, .int .i64 o, .int .i64 n, .string t]] w fun e w' => e = .returned (.bool true) ∧ Below w.heap.size w w' := by
  have HOf := Kp.mk hOf
  have HSent := Kp.mk hSent
  have HTried := Kp.mk hTried
  have HConn := Kp.mk hConn
  have HRight := Kp.mk hRight
  have HMust := Kp.mk hMust
  have H0 := Kp.mk (heap_alloc_new w (.cells #[.int .i64 2, .int .i64 c, .int .i64 o, .int .i64 n, .string T] 87))
  have HB := Kp.mk ((Below.refl w.heap.size w).alloc (Nat.le_refl _) (.cells #[.int .i64 2, .int .i64 c, .int .i64 o, .int .i64 n, .string T] 87))
  have cc : (c == c) = true := by simp
  have oo : (o == o) = true := by simp
  have tt : (T.toList == T.toList) = true := by simp
  clear hOf hSent hTried hConn hRight hMust
  rcases ht with ⟨ht, hT⟩ | ⟨ht, hT⟩
  all_goals
    have HT := Kp.mk hT
    clear hT
    go_enter Try.func10, Try.ntmps10
    go_wp2_with fail
    try rw [← HT.out]
    refine (HOf.out _).mono ?_
    rintro e w1 ⟨rfl, hb⟩
    replace H0 := Kp.mk ((hb.block _ (blk_lt H0.out)).trans H0.out); replace HB := Kp.mk (HB.out.trans (hb.mono HB.out.size)); clear hb
    go_wp2_with fail
    refine (HSent.out _).mono ?_
    rintro e w2 ⟨rfl, hb⟩
    replace H0 := Kp.mk ((hb.block _ (blk_lt H0.out)).trans H0.out); replace HB := Kp.mk (HB.out.trans (hb.mono HB.out.size)); clear hb
    have H5 := Kp.mk (heap_alloc_new w2 (.cells #[.int .i64 c, .int .i64 o, .string T] 93)); replace H0 := Kp.mk (blk_alloc (o2 := .cells #[.int .i64 c, .int .i64 o, .string T] 93) H0.out); replace HB := Kp.mk (HB.out.alloc HB.out.size (.cells #[.int .i64 c, .int .i64 o, .string T] 93))
    go_wp2_with fail
    refine (HTried.out _).mono ?_
    rintro e w3 ⟨rfl, hb⟩
    replace H0 := Kp.mk ((hb.block _ (blk_lt H0.out)).trans H0.out); replace H5 := Kp.mk ((hb.block _ (blk_lt H5.out)).trans H5.out); replace HB := Kp.mk (HB.out.trans (hb.mono HB.out.size)); clear hb
    have H7 := Kp.mk (heap_alloc_new w3 (.cells #[.int .i64 c, .int .i64 o, .string T] 93)); replace H0 := Kp.mk (blk_alloc (o2 := .cells #[.int .i64 c, .int .i64 o, .string T] 93) H0.out); replace H5 := Kp.mk (blk_alloc (o2 := .cells #[.int .i64 c, .int .i64 o, .string T] 93) H5.out); replace HB := Kp.mk (HB.out.alloc HB.out.size (.cells #[.int .i64 c, .int .i64 o, .string T] 93))
    go_wp2_with fail
    refine (HConn.out _).mono ?_
    rintro e w4 ⟨rfl, hb⟩
    replace H0 := Kp.mk ((hb.block _ (blk_lt H0.out)).trans H0.out); replace H5 := Kp.mk ((hb.block _ (blk_lt H5.out)).trans H5.out); replace H7 := Kp.mk ((hb.block _ (blk_lt H7.out)).trans H7.out); replace HB := Kp.mk (HB.out.trans (hb.mono HB.out.size)); clear hb
    have H9 := Kp.mk (heap_alloc_new w4 (.cells #[.int .i64 c, .int .i64 o] 85)); replace H0 := Kp.mk (blk_alloc (o2 := .cells #[.int .i64 c, .int .i64 o] 85) H0.out); replace H5 := Kp.mk (blk_alloc (o2 := .cells #[.int .i64 c, .int .i64 o] 85) H5.out); replace H7 := Kp.mk (blk_alloc (o2 := .cells #[.int .i64 c, .int .i64 o] 85) H7.out); replace HB := Kp.mk (HB.out.alloc HB.out.size (.cells #[.int .i64 c, .int .i64 o] 85))
    have HX := Kp.mk (show AB w2.heap.size w3.heap.size w4.heap.size #[.int .i64 2, .int .i64 c, .int .i64 o, .int .i64 n, .string T] #[.int .i64 c, .int .i64 o, .string T] #[.int .i64 c, .int .i64 o] w _ from ⟨H0.out, H5.out, H7.out, H9.out, HB.out⟩)
    clear H0 H5 H7 H9 HB
    have e0 := blk_cell (i := 0) HX.out.h0 rfl
    have e1 := blk_cell (i := 1) HX.out.h0 rfl
    have e2 := blk_cell (i := 2) HX.out.h0 rfl
    have e3 := blk_cell (i := 3) HX.out.h0 rfl
    have e4 := blk_cell (i := 4) HX.out.h0 rfl
    go_wp2_with fail
    try rw [← HT.out]
    refine (HRight.out _).mono ?_
    rintro e w5 ⟨rfl, hb⟩
    replace HX := Kp.mk (HX.out.below hb)
    clear hb e0 e1 e2 e3 e4
    have e0 := blk_cell (i := 0) HX.out.h0 rfl
    have e1 := blk_cell (i := 1) HX.out.h0 rfl
    have e2 := blk_cell (i := 2) HX.out.h0 rfl
    have e3 := blk_cell (i := 3) HX.out.h0 rfl
    have e4 := blk_cell (i := 4) HX.out.h0 rfl
    go_upto_region 8 with fail
    have HD := Kp.mk (HX.out.below (gdrewN _ 1))
    haveI hne : Nonempty (InS (AB w2.heap.size w3.heap.size w4.heap.size #[.int .i64 2, .int .i64 c, .int .i64 o, .int .i64 n, .string T] #[.int .i64 c, .int .i64 o, .string T] #[.int .i64 c, .int .i64 o] w)) := ⟨⟨_, HX.out⟩⟩
    have p0 := fun p : InS (AB w2.heap.size w3.heap.size w4.heap.size #[.int .i64 2, .int .i64 c, .int .i64 o, .int .i64 n, .string T] #[.int .i64 c, .int .i64 o, .string T] #[.int .i64 c, .int .i64 o] w) => blk_cell (i := 0) p.ok.h0 rfl
    have p1 := fun p : InS (AB w2.heap.size w3.heap.size w4.heap.size #[.int .i64 2, .int .i64 c, .int .i64 o, .int .i64 n, .string T] #[.int .i64 c, .int .i64 o, .string T] #[.int .i64 c, .int .i64 o] w) => blk_cell (i := 1) p.ok.h0 rfl
    have p2 := fun p : InS (AB w2.heap.size w3.heap.size w4.heap.size #[.int .i64 2, .int .i64 c, .int .i64 o, .int .i64 n, .string T] #[.int .i64 c, .int .i64 o, .string T] #[.int .i64 c, .int .i64 o] w) => blk_cell (i := 2) p.ok.h0 rfl
    have p3 := fun p : InS (AB w2.heap.size w3.heap.size w4.heap.size #[.int .i64 2, .int .i64 c, .int .i64 o, .int .i64 n, .string T] #[.int .i64 c, .int .i64 o, .string T] #[.int .i64 c, .int .i64 o] w) => blk_cell (i := 3) p.ok.h0 rfl
    have p4 := fun p : InS (AB w2.heap.size w3.heap.size w4.heap.size #[.int .i64 2, .int .i64 c, .int .i64 o, .int .i64 n, .string T] #[.int .i64 c, .int .i64 o, .string T] #[.int .i64 c, .int .i64 o] w) => blk_cell (i := 4) p.ok.h0 rfl
    have q0 := fun p : InS (AB w2.heap.size w3.heap.size w4.heap.size #[.int .i64 2, .int .i64 c, .int .i64 o, .int .i64 n, .string T] #[.int .i64 c, .int .i64 o, .string T] #[.int .i64 c, .int .i64 o] w) => blk_cell (i := 0) p.ok.h5 rfl
    have q1 := fun p : InS (AB w2.heap.size w3.heap.size w4.heap.size #[.int .i64 2, .int .i64 c, .int .i64 o, .int .i64 n, .string T] #[.int .i64 c, .int .i64 o, .string T] #[.int .i64 c, .int .i64 o] w) => blk_cell (i := 1) p.ok.h5 rfl
    have q2 := fun p : InS (AB w2.heap.size w3.heap.size w4.heap.size #[.int .i64 2, .int .i64 c, .int .i64 o, .int .i64 n, .string T] #[.int .i64 c, .int .i64 o, .string T] #[.int .i64 c, .int .i64 o] w) => blk_cell (i := 2) p.ok.h5 rfl
    have r0 := fun p : InS (AB w2.heap.size w3.heap.size w4.heap.size #[.int .i64 2, .int .i64 c, .int .i64 o, .int .i64 n, .string T] #[.int .i64 c, .int .i64 o, .string T] #[.int .i64 c, .int .i64 o] w) => blk_cell (i := 0) p.ok.h7 rfl
    have r1 := fun p : InS (AB w2.heap.size w3.heap.size w4.heap.size #[.int .i64 2, .int .i64 c, .int .i64 o, .int .i64 n, .string T] #[.int .i64 c, .int .i64 o, .string T] #[.int .i64 c, .int .i64 o] w) => blk_cell (i := 1) p.ok.h7 rfl
    have r2 := fun p : InS (AB w2.heap.size w3.heap.size w4.heap.size #[.int .i64 2, .int .i64 c, .int .i64 o, .int .i64 n, .string T] #[.int .i64 c, .int .i64 o, .string T] #[.int .i64 c, .int .i64 o] w) => blk_cell (i := 2) p.ok.h7 rfl
    refine region_in _ (by kernel_rfl) (by kernel_rfl) HD.out ?_
    iterate 3 (go_big_quiet_step (fail))
    go_big_quiet_step ((go_at_call 55; exact call_in fun w h => (HMust.out w).mono fun _ _ h2 => ⟨h2.1, h.below h2.2⟩))
    iterate 39 (go_big_quiet_step (fail))
    refine wpQuiet_nil ?_
    intro _ hw'
    obtain ⟨wq, rfl⟩ := hw'
    have HQ := Kp.mk wq.ok
    have e0 := blk_cell (i := 0) HQ.out.h0 rfl
    have e1 := blk_cell (i := 1) HQ.out.h0 rfl
    have e2 := blk_cell (i := 2) HQ.out.h0 rfl
    have k0 := blk_cell (i := 0) HQ.out.h9 rfl
    have k1 := blk_cell (i := 1) HQ.out.h9 rfl
    go_wp2_with fail
    refine (lives44_any _).mono ?_
    rintro e w6 ⟨rfl, hb⟩
    go_wp2_with fail
    go_ret
    exact ⟨rfl, HQ.out.bel.trans (hb.mono HQ.out.bel.size)⟩
set_option maxRecDepth 100000 in
set_option maxHeartbeats 4000000 in
theorem aa_right (op : Int) (c o n : Int) (t T : ByteArray) (A : Value) (w : World) (ht : (t.size ≤ 6000 ∧ T = t) ∨ (¬ t.size ≤ 6000 ∧ T = t.extract 0 6000)) (h2 : ¬ op = 2) (h6 : ¬ op = 6)
    (hOf : ∀ w, Calls Try.prog 50 #[.agg #[.int .i64 op, .int .i64 c, .int .i64 o, .int .i64 n, .string T]] w fun e w' => e = .returned (.tuple #[A, .bool true]) ∧ Below w.heap.size w w')
    (hSent : ∀ w, Calls Try.prog 51 #[A] w fun e w' => e = .returned (.tuple #[.agg #[.int .i64 0, .int .i64 0, .string ⟨#[]⟩], .bool false]) ∧ Below w.heap.size w w')
    (hTried : ∀ w, Calls Try.prog 52 #[A] w fun e w' => e = .returned (.tuple #[.agg #[.int .i64 0, .int .i64 0, .string ⟨#[]⟩], .bool false]) ∧ Below w.heap.size w w')
    (hConn : ∀ w, Calls Try.prog 53 #[A] w fun e w' => e = .returned (.tuple #[.agg #[.int .i64 c, .int .i64 o], .bool true]) ∧ Below w.heap.size w w')
    (hRight : ∀ w, Calls Try.prog 54 #[.agg #[.int .i64 op, .int .i64 c, .int .i64 o, .int .i64 n, .string T]] w fun e w' => e = .returned (.bool true) ∧ Below w.heap.size w w') :
    Calls Try.prog 10 #[.agg #[.int .i64 op, .int .i64 c, .int .i64 o, .int .i64 n, .string t]] w fun e w' => e = .returned (.bool true) ∧ Below w.heap.size w w' := by
  have HOf := Kp.mk hOf
  have HSent := Kp.mk hSent
  have HTried := Kp.mk hTried
  have HConn := Kp.mk hConn
  have HRight := Kp.mk hRight

  have H0 := Kp.mk (heap_alloc_new w (.cells #[.int .i64 op, .int .i64 c, .int .i64 o, .int .i64 n, .string T] 87))
  have HB := Kp.mk ((Below.refl w.heap.size w).alloc (Nat.le_refl _) (.cells #[.int .i64 op, .int .i64 c, .int .i64 o, .int .i64 n, .string T] 87))
  have cc : (c == c) = true := by simp
  have oo : (o == o) = true := by simp
  have h2b : (op == 2) = false := by rw [beq_eq_false_iff_ne]; exact h2
  have h6b : (op != 6) = true := by rw [bne_iff_ne]; exact h6
  clear hOf hSent hTried hConn hRight
  rcases ht with ⟨ht, hT⟩ | ⟨ht, hT⟩
  all_goals
    have HT := Kp.mk hT
    clear hT
    go_enter Try.func10, Try.ntmps10
    go_wp2_with fail
    try rw [← HT.out]
    refine (HOf.out _).mono ?_
    rintro e w1 ⟨rfl, hb⟩
    replace H0 := Kp.mk ((hb.block _ (blk_lt H0.out)).trans H0.out); replace HB := Kp.mk (HB.out.trans (hb.mono HB.out.size)); clear hb
    go_wp2_with fail
    refine (HSent.out _).mono ?_
    rintro e w2 ⟨rfl, hb⟩
    replace H0 := Kp.mk ((hb.block _ (blk_lt H0.out)).trans H0.out); replace HB := Kp.mk (HB.out.trans (hb.mono HB.out.size)); clear hb
    have H5 := Kp.mk (heap_alloc_new w2 (.cells #[.int .i64 0, .int .i64 0, .string ⟨#[]⟩] 93)); replace H0 := Kp.mk (blk_alloc (o2 := .cells #[.int .i64 0, .int .i64 0, .string ⟨#[]⟩] 93) H0.out); replace HB := Kp.mk (HB.out.alloc HB.out.size (.cells #[.int .i64 0, .int .i64 0, .string ⟨#[]⟩] 93))
    go_wp2_with fail
    refine (HTried.out _).mono ?_
    rintro e w3 ⟨rfl, hb⟩
    replace H0 := Kp.mk ((hb.block _ (blk_lt H0.out)).trans H0.out); replace H5 := Kp.mk ((hb.block _ (blk_lt H5.out)).trans H5.out); replace HB := Kp.mk (HB.out.trans (hb.mono HB.out.size)); clear hb
    have H7 := Kp.mk (heap_alloc_new w3 (.cells #[.int .i64 0, .int .i64 0, .string ⟨#[]⟩] 93)); replace H0 := Kp.mk (blk_alloc (o2 := .cells #[.int .i64 0, .int .i64 0, .string ⟨#[]⟩] 93) H0.out); replace H5 := Kp.mk (blk_alloc (o2 := .cells #[.int .i64 0, .int .i64 0, .string ⟨#[]⟩] 93) H5.out); replace HB := Kp.mk (HB.out.alloc HB.out.size (.cells #[.int .i64 0, .int .i64 0, .string ⟨#[]⟩] 93))
    go_wp2_with fail
    refine (HConn.out _).mono ?_
    rintro e w4 ⟨rfl, hb⟩
    replace H0 := Kp.mk ((hb.block _ (blk_lt H0.out)).trans H0.out); replace H5 := Kp.mk ((hb.block _ (blk_lt H5.out)).trans H5.out); replace H7 := Kp.mk ((hb.block _ (blk_lt H7.out)).trans H7.out); replace HB := Kp.mk (HB.out.trans (hb.mono HB.out.size)); clear hb
    have H9 := Kp.mk (heap_alloc_new w4 (.cells #[.int .i64 c, .int .i64 o] 85)); replace H0 := Kp.mk (blk_alloc (o2 := .cells #[.int .i64 c, .int .i64 o] 85) H0.out); replace H5 := Kp.mk (blk_alloc (o2 := .cells #[.int .i64 c, .int .i64 o] 85) H5.out); replace H7 := Kp.mk (blk_alloc (o2 := .cells #[.int .i64 c, .int .i64 o] 85) H7.out); replace HB := Kp.mk (HB.out.alloc HB.out.size (.cells #[.int .i64 c, .int .i64 o] 85))
    have HX := Kp.mk (show AB w2.heap.size w3.heap.size w4.heap.size #[.int .i64 op, .int .i64 c, .int .i64 o, .int .i64 n, .string T] #[.int .i64 0, .int .i64 0, .string ⟨#[]⟩] #[.int .i64 c, .int .i64 o] w _ from ⟨H0.out, H5.out, H7.out, H9.out, HB.out⟩)
    clear H0 H5 H7 H9 HB
    have e0 := blk_cell (i := 0) HX.out.h0 rfl
    have e1 := blk_cell (i := 1) HX.out.h0 rfl
    have e2 := blk_cell (i := 2) HX.out.h0 rfl
    have e3 := blk_cell (i := 3) HX.out.h0 rfl
    have e4 := blk_cell (i := 4) HX.out.h0 rfl
    go_wp2_with fail
    try rw [← HT.out]
    refine (HRight.out _).mono ?_
    rintro e w5 ⟨rfl, hb⟩
    replace HX := Kp.mk (HX.out.below hb)
    clear hb e0 e1 e2 e3 e4
    have e0 := blk_cell (i := 0) HX.out.h0 rfl
    have e1 := blk_cell (i := 1) HX.out.h0 rfl
    have e2 := blk_cell (i := 2) HX.out.h0 rfl
    have e3 := blk_cell (i := 3) HX.out.h0 rfl
    have e4 := blk_cell (i := 4) HX.out.h0 rfl
    go_upto_region 8 with fail
    have HD := Kp.mk (HX.out.below (gdrewN _ 1))
    haveI hne : Nonempty (InS (AB w2.heap.size w3.heap.size w4.heap.size #[.int .i64 op, .int .i64 c, .int .i64 o, .int .i64 n, .string T] #[.int .i64 0, .int .i64 0, .string ⟨#[]⟩] #[.int .i64 c, .int .i64 o] w)) := ⟨⟨_, HX.out⟩⟩
    have p0 := fun p : InS (AB w2.heap.size w3.heap.size w4.heap.size #[.int .i64 op, .int .i64 c, .int .i64 o, .int .i64 n, .string T] #[.int .i64 0, .int .i64 0, .string ⟨#[]⟩] #[.int .i64 c, .int .i64 o] w) => blk_cell (i := 0) p.ok.h0 rfl
    have p1 := fun p : InS (AB w2.heap.size w3.heap.size w4.heap.size #[.int .i64 op, .int .i64 c, .int .i64 o, .int .i64 n, .string T] #[.int .i64 0, .int .i64 0, .string ⟨#[]⟩] #[.int .i64 c, .int .i64 o] w) => blk_cell (i := 1) p.ok.h0 rfl
    have p2 := fun p : InS (AB w2.heap.size w3.heap.size w4.heap.size #[.int .i64 op, .int .i64 c, .int .i64 o, .int .i64 n, .string T] #[.int .i64 0, .int .i64 0, .string ⟨#[]⟩] #[.int .i64 c, .int .i64 o] w) => blk_cell (i := 2) p.ok.h0 rfl
    have p3 := fun p : InS (AB w2.heap.size w3.heap.size w4.heap.size #[.int .i64 op, .int .i64 c, .int .i64 o, .int .i64 n, .string T] #[.int .i64 0, .int .i64 0, .string ⟨#[]⟩] #[.int .i64 c, .int .i64 o] w) => blk_cell (i := 3) p.ok.h0 rfl
    have p4 := fun p : InS (AB w2.heap.size w3.heap.size w4.heap.size #[.int .i64 op, .int .i64 c, .int .i64 o, .int .i64 n, .string T] #[.int .i64 0, .int .i64 0, .string ⟨#[]⟩] #[.int .i64 c, .int .i64 o] w) => blk_cell (i := 4) p.ok.h0 rfl
    have q0 := fun p : InS (AB w2.heap.size w3.heap.size w4.heap.size #[.int .i64 op, .int .i64 c, .int .i64 o, .int .i64 n, .string T] #[.int .i64 0, .int .i64 0, .string ⟨#[]⟩] #[.int .i64 c, .int .i64 o] w) => blk_cell (i := 0) p.ok.h5 rfl
    have q1 := fun p : InS (AB w2.heap.size w3.heap.size w4.heap.size #[.int .i64 op, .int .i64 c, .int .i64 o, .int .i64 n, .string T] #[.int .i64 0, .int .i64 0, .string ⟨#[]⟩] #[.int .i64 c, .int .i64 o] w) => blk_cell (i := 1) p.ok.h5 rfl
    have q2 := fun p : InS (AB w2.heap.size w3.heap.size w4.heap.size #[.int .i64 op, .int .i64 c, .int .i64 o, .int .i64 n, .string T] #[.int .i64 0, .int .i64 0, .string ⟨#[]⟩] #[.int .i64 c, .int .i64 o] w) => blk_cell (i := 2) p.ok.h5 rfl
    have r0 := fun p : InS (AB w2.heap.size w3.heap.size w4.heap.size #[.int .i64 op, .int .i64 c, .int .i64 o, .int .i64 n, .string T] #[.int .i64 0, .int .i64 0, .string ⟨#[]⟩] #[.int .i64 c, .int .i64 o] w) => blk_cell (i := 0) p.ok.h7 rfl
    have r1 := fun p : InS (AB w2.heap.size w3.heap.size w4.heap.size #[.int .i64 op, .int .i64 c, .int .i64 o, .int .i64 n, .string T] #[.int .i64 0, .int .i64 0, .string ⟨#[]⟩] #[.int .i64 c, .int .i64 o] w) => blk_cell (i := 1) p.ok.h7 rfl
    have r2 := fun p : InS (AB w2.heap.size w3.heap.size w4.heap.size #[.int .i64 op, .int .i64 c, .int .i64 o, .int .i64 n, .string T] #[.int .i64 0, .int .i64 0, .string ⟨#[]⟩] #[.int .i64 c, .int .i64 o] w) => blk_cell (i := 2) p.ok.h7 rfl
    refine region_in _ (by kernel_rfl) (by kernel_rfl) HD.out ?_
    iterate 43 (go_big_quiet_step (fail))
    refine wpQuiet_nil ?_
    intro _ hw'
    obtain ⟨wq, rfl⟩ := hw'
    have HQ := Kp.mk wq.ok
    have e0 := blk_cell (i := 0) HQ.out.h0 rfl
    have e1 := blk_cell (i := 1) HQ.out.h0 rfl
    have e2 := blk_cell (i := 2) HQ.out.h0 rfl
    have k0 := blk_cell (i := 0) HQ.out.h9 rfl
    have k1 := blk_cell (i := 1) HQ.out.h9 rfl
    go_wp2_with fail
    refine (lives44_any _).mono ?_
    rintro e w6 ⟨rfl, hb⟩
    go_wp2_with fail
    go_ret
    exact ⟨rfl, HQ.out.bel.trans (hb.mono HQ.out.bel.size)⟩
set_option maxRecDepth 100000 in
set_option maxHeartbeats 4000000 in
theorem aa_tick (c o n : Int) (t T : ByteArray) (A : Value) (w : World) (ht : (t.size ≤ 6000 ∧ T = t) ∨ (¬ t.size ≤ 6000 ∧ T = t.extract 0 6000))
    (hOf : ∀ w, Calls Try.prog 50 #[.agg #[.int .i64 6, .int .i64 c, .int .i64 o, .int .i64 n, .string T]] w fun e w' => e = .returned (.tuple #[A, .bool true]) ∧ Below w.heap.size w w')
    (hSent : ∀ w, Calls Try.prog 51 #[A] w fun e w' => e = .returned (.tuple #[.agg #[.int .i64 0, .int .i64 0, .string ⟨#[]⟩], .bool false]) ∧ Below w.heap.size w w')
    (hTried : ∀ w, Calls Try.prog 52 #[A] w fun e w' => e = .returned (.tuple #[.agg #[.int .i64 0, .int .i64 0, .string ⟨#[]⟩], .bool false]) ∧ Below w.heap.size w w')
    (hConn : ∀ w, Calls Try.prog 53 #[A] w fun e w' => e = .returned (.tuple #[.agg #[.int .i64 0, .int .i64 0], .bool false]) ∧ Below w.heap.size w w')
    (hRight : ∀ w, Calls Try.prog 54 #[.agg #[.int .i64 6, .int .i64 c, .int .i64 o, .int .i64 n, .string T]] w fun e w' => e = .returned (.bool true) ∧ Below w.heap.size w w') :
    Calls Try.prog 10 #[.agg #[.int .i64 6, .int .i64 c, .int .i64 o, .int .i64 n, .string t]] w fun e w' => e = .returned (.bool true) ∧ Below w.heap.size w w' := by
  have HOf := Kp.mk hOf
  have HSent := Kp.mk hSent
  have HTried := Kp.mk hTried
  have HConn := Kp.mk hConn
  have HRight := Kp.mk hRight

  have H0 := Kp.mk (heap_alloc_new w (.cells #[.int .i64 6, .int .i64 c, .int .i64 o, .int .i64 n, .string T] 87))
  have HB := Kp.mk ((Below.refl w.heap.size w).alloc (Nat.le_refl _) (.cells #[.int .i64 6, .int .i64 c, .int .i64 o, .int .i64 n, .string T] 87))
  clear hOf hSent hTried hConn hRight
  rcases ht with ⟨ht, hT⟩ | ⟨ht, hT⟩
  all_goals
    have HT := Kp.mk hT
    clear hT
    go_enter Try.func10, Try.ntmps10
    go_wp2_with fail
    try rw [← HT.out]
    refine (HOf.out _).mono ?_
    rintro e w1 ⟨rfl, hb⟩
    replace H0 := Kp.mk ((hb.block _ (blk_lt H0.out)).trans H0.out); replace HB := Kp.mk (HB.out.trans (hb.mono HB.out.size)); clear hb
    go_wp2_with fail
    refine (HSent.out _).mono ?_
    rintro e w2 ⟨rfl, hb⟩
    replace H0 := Kp.mk ((hb.block _ (blk_lt H0.out)).trans H0.out); replace HB := Kp.mk (HB.out.trans (hb.mono HB.out.size)); clear hb
    have H5 := Kp.mk (heap_alloc_new w2 (.cells #[.int .i64 0, .int .i64 0, .string ⟨#[]⟩] 93)); replace H0 := Kp.mk (blk_alloc (o2 := .cells #[.int .i64 0, .int .i64 0, .string ⟨#[]⟩] 93) H0.out); replace HB := Kp.mk (HB.out.alloc HB.out.size (.cells #[.int .i64 0, .int .i64 0, .string ⟨#[]⟩] 93))
    go_wp2_with fail
    refine (HTried.out _).mono ?_
    rintro e w3 ⟨rfl, hb⟩
    replace H0 := Kp.mk ((hb.block _ (blk_lt H0.out)).trans H0.out); replace H5 := Kp.mk ((hb.block _ (blk_lt H5.out)).trans H5.out); replace HB := Kp.mk (HB.out.trans (hb.mono HB.out.size)); clear hb
    have H7 := Kp.mk (heap_alloc_new w3 (.cells #[.int .i64 0, .int .i64 0, .string ⟨#[]⟩] 93)); replace H0 := Kp.mk (blk_alloc (o2 := .cells #[.int .i64 0, .int .i64 0, .string ⟨#[]⟩] 93) H0.out); replace H5 := Kp.mk (blk_alloc (o2 := .cells #[.int .i64 0, .int .i64 0, .string ⟨#[]⟩] 93) H5.out); replace HB := Kp.mk (HB.out.alloc HB.out.size (.cells #[.int .i64 0, .int .i64 0, .string ⟨#[]⟩] 93))
    go_wp2_with fail
    refine (HConn.out _).mono ?_
    rintro e w4 ⟨rfl, hb⟩
    replace H0 := Kp.mk ((hb.block _ (blk_lt H0.out)).trans H0.out); replace H5 := Kp.mk ((hb.block _ (blk_lt H5.out)).trans H5.out); replace H7 := Kp.mk ((hb.block _ (blk_lt H7.out)).trans H7.out); replace HB := Kp.mk (HB.out.trans (hb.mono HB.out.size)); clear hb
    have H9 := Kp.mk (heap_alloc_new w4 (.cells #[.int .i64 0, .int .i64 0] 85)); replace H0 := Kp.mk (blk_alloc (o2 := .cells #[.int .i64 0, .int .i64 0] 85) H0.out); replace H5 := Kp.mk (blk_alloc (o2 := .cells #[.int .i64 0, .int .i64 0] 85) H5.out); replace H7 := Kp.mk (blk_alloc (o2 := .cells #[.int .i64 0, .int .i64 0] 85) H7.out); replace HB := Kp.mk (HB.out.alloc HB.out.size (.cells #[.int .i64 0, .int .i64 0] 85))
    have HX := Kp.mk (show AB w2.heap.size w3.heap.size w4.heap.size #[.int .i64 6, .int .i64 c, .int .i64 o, .int .i64 n, .string T] #[.int .i64 0, .int .i64 0, .string ⟨#[]⟩] #[.int .i64 0, .int .i64 0] w _ from ⟨H0.out, H5.out, H7.out, H9.out, HB.out⟩)
    clear H0 H5 H7 H9 HB
    have e0 := blk_cell (i := 0) HX.out.h0 rfl
    have e1 := blk_cell (i := 1) HX.out.h0 rfl
    have e2 := blk_cell (i := 2) HX.out.h0 rfl
    have e3 := blk_cell (i := 3) HX.out.h0 rfl
    have e4 := blk_cell (i := 4) HX.out.h0 rfl
    go_wp2_with fail
    try rw [← HT.out]
    refine (HRight.out _).mono ?_
    rintro e w5 ⟨rfl, hb⟩
    replace HX := Kp.mk (HX.out.below hb)
    clear hb e0 e1 e2 e3 e4
    have e0 := blk_cell (i := 0) HX.out.h0 rfl
    have e1 := blk_cell (i := 1) HX.out.h0 rfl
    have e2 := blk_cell (i := 2) HX.out.h0 rfl
    have e3 := blk_cell (i := 3) HX.out.h0 rfl
    have e4 := blk_cell (i := 4) HX.out.h0 rfl
    go_upto_region 8 with fail
    have HD := Kp.mk (HX.out.below (gdrewN _ 1))
    haveI hne : Nonempty (InS (AB w2.heap.size w3.heap.size w4.heap.size #[.int .i64 6, .int .i64 c, .int .i64 o, .int .i64 n, .string T] #[.int .i64 0, .int .i64 0, .string ⟨#[]⟩] #[.int .i64 0, .int .i64 0] w)) := ⟨⟨_, HX.out⟩⟩
    have p0 := fun p : InS (AB w2.heap.size w3.heap.size w4.heap.size #[.int .i64 6, .int .i64 c, .int .i64 o, .int .i64 n, .string T] #[.int .i64 0, .int .i64 0, .string ⟨#[]⟩] #[.int .i64 0, .int .i64 0] w) => blk_cell (i := 0) p.ok.h0 rfl
    have p1 := fun p : InS (AB w2.heap.size w3.heap.size w4.heap.size #[.int .i64 6, .int .i64 c, .int .i64 o, .int .i64 n, .string T] #[.int .i64 0, .int .i64 0, .string ⟨#[]⟩] #[.int .i64 0, .int .i64 0] w) => blk_cell (i := 1) p.ok.h0 rfl
    have p2 := fun p : InS (AB w2.heap.size w3.heap.size w4.heap.size #[.int .i64 6, .int .i64 c, .int .i64 o, .int .i64 n, .string T] #[.int .i64 0, .int .i64 0, .string ⟨#[]⟩] #[.int .i64 0, .int .i64 0] w) => blk_cell (i := 2) p.ok.h0 rfl
    have p3 := fun p : InS (AB w2.heap.size w3.heap.size w4.heap.size #[.int .i64 6, .int .i64 c, .int .i64 o, .int .i64 n, .string T] #[.int .i64 0, .int .i64 0, .string ⟨#[]⟩] #[.int .i64 0, .int .i64 0] w) => blk_cell (i := 3) p.ok.h0 rfl
    have p4 := fun p : InS (AB w2.heap.size w3.heap.size w4.heap.size #[.int .i64 6, .int .i64 c, .int .i64 o, .int .i64 n, .string T] #[.int .i64 0, .int .i64 0, .string ⟨#[]⟩] #[.int .i64 0, .int .i64 0] w) => blk_cell (i := 4) p.ok.h0 rfl
    have q0 := fun p : InS (AB w2.heap.size w3.heap.size w4.heap.size #[.int .i64 6, .int .i64 c, .int .i64 o, .int .i64 n, .string T] #[.int .i64 0, .int .i64 0, .string ⟨#[]⟩] #[.int .i64 0, .int .i64 0] w) => blk_cell (i := 0) p.ok.h5 rfl
    have q1 := fun p : InS (AB w2.heap.size w3.heap.size w4.heap.size #[.int .i64 6, .int .i64 c, .int .i64 o, .int .i64 n, .string T] #[.int .i64 0, .int .i64 0, .string ⟨#[]⟩] #[.int .i64 0, .int .i64 0] w) => blk_cell (i := 1) p.ok.h5 rfl
    have q2 := fun p : InS (AB w2.heap.size w3.heap.size w4.heap.size #[.int .i64 6, .int .i64 c, .int .i64 o, .int .i64 n, .string T] #[.int .i64 0, .int .i64 0, .string ⟨#[]⟩] #[.int .i64 0, .int .i64 0] w) => blk_cell (i := 2) p.ok.h5 rfl
    have r0 := fun p : InS (AB w2.heap.size w3.heap.size w4.heap.size #[.int .i64 6, .int .i64 c, .int .i64 o, .int .i64 n, .string T] #[.int .i64 0, .int .i64 0, .string ⟨#[]⟩] #[.int .i64 0, .int .i64 0] w) => blk_cell (i := 0) p.ok.h7 rfl
    have r1 := fun p : InS (AB w2.heap.size w3.heap.size w4.heap.size #[.int .i64 6, .int .i64 c, .int .i64 o, .int .i64 n, .string T] #[.int .i64 0, .int .i64 0, .string ⟨#[]⟩] #[.int .i64 0, .int .i64 0] w) => blk_cell (i := 1) p.ok.h7 rfl
    have r2 := fun p : InS (AB w2.heap.size w3.heap.size w4.heap.size #[.int .i64 6, .int .i64 c, .int .i64 o, .int .i64 n, .string T] #[.int .i64 0, .int .i64 0, .string ⟨#[]⟩] #[.int .i64 0, .int .i64 0] w) => blk_cell (i := 2) p.ok.h7 rfl
    refine region_in _ (by kernel_rfl) (by kernel_rfl) HD.out ?_
    iterate 43 (go_big_quiet_step (fail))
    refine wpQuiet_nil ?_
    intro _ hw'
    obtain ⟨wq, rfl⟩ := hw'
    have HQ := Kp.mk wq.ok
    have e0 := blk_cell (i := 0) HQ.out.h0 rfl
    have e1 := blk_cell (i := 1) HQ.out.h0 rfl
    have e2 := blk_cell (i := 2) HQ.out.h0 rfl
    have k0 := blk_cell (i := 0) HQ.out.h9 rfl
    have k1 := blk_cell (i := 1) HQ.out.h9 rfl
    go_wp2_with fail
    refine (lives44_any _).mono ?_
    rintro e w6 ⟨rfl, hb⟩
    go_wp2_with fail
    go_ret
    exact ⟨rfl, HQ.out.bel.trans (hb.mono HQ.out.bel.size)⟩
set_option maxRecDepth 100000 in
set_option maxHeartbeats 4000000 in
theorem aa_none (op : Int) (c o n : Int) (t T : ByteArray) (A : Value) (w : World) (ht : (t.size ≤ 6000 ∧ T = t) ∨ (¬ t.size ≤ 6000 ∧ T = t.extract 0 6000))
    (hOf : ∀ w, Calls Try.prog 50 #[.agg #[.int .i64 op, .int .i64 c, .int .i64 o, .int .i64 n, .string T]] w fun e w' => e = .returned (.tuple #[A, .bool false]) ∧ Below w.heap.size w w')
    (hSent : ∀ w, Calls Try.prog 51 #[A] w fun e w' => e = .returned (.tuple #[.agg #[.int .i64 0, .int .i64 0, .string ⟨#[]⟩], .bool false]) ∧ Below w.heap.size w w')
    (hTried : ∀ w, Calls Try.prog 52 #[A] w fun e w' => e = .returned (.tuple #[.agg #[.int .i64 0, .int .i64 0, .string ⟨#[]⟩], .bool false]) ∧ Below w.heap.size w w')
    (hConn : ∀ w, Calls Try.prog 53 #[A] w fun e w' => e = .returned (.tuple #[.agg #[.int .i64 0, .int .i64 0], .bool false]) ∧ Below w.heap.size w w')
    (hRight : ∀ w, Calls Try.prog 54 #[.agg #[.int .i64 op, .int .i64 c, .int .i64 o, .int .i64 n, .string T]] w fun e w' => e = .returned (.bool false) ∧ Below w.heap.size w w') :
    Calls Try.prog 10 #[.agg #[.int .i64 op, .int .i64 c, .int .i64 o, .int .i64 n, .string t]] w fun e w' => e = .returned (.bool true) ∧ Below w.heap.size w w' := by
  have HOf := Kp.mk hOf
  have HSent := Kp.mk hSent
  have HTried := Kp.mk hTried
  have HConn := Kp.mk hConn
  have HRight := Kp.mk hRight

  have H0 := Kp.mk (heap_alloc_new w (.cells #[.int .i64 op, .int .i64 c, .int .i64 o, .int .i64 n, .string T] 87))
  have HB := Kp.mk ((Below.refl w.heap.size w).alloc (Nat.le_refl _) (.cells #[.int .i64 op, .int .i64 c, .int .i64 o, .int .i64 n, .string T] 87))
  clear hOf hSent hTried hConn hRight
  rcases ht with ⟨ht, hT⟩ | ⟨ht, hT⟩
  all_goals
    have HT := Kp.mk hT
    clear hT
    go_enter Try.func10, Try.ntmps10
    go_wp2_with fail
    try rw [← HT.out]
    refine (HOf.out _).mono ?_
    rintro e w1 ⟨rfl, hb⟩
    replace H0 := Kp.mk ((hb.block _ (blk_lt H0.out)).trans H0.out); replace HB := Kp.mk (HB.out.trans (hb.mono HB.out.size)); clear hb
    go_wp2_with fail
    refine (HSent.out _).mono ?_
    rintro e w2 ⟨rfl, hb⟩
    replace H0 := Kp.mk ((hb.block _ (blk_lt H0.out)).trans H0.out); replace HB := Kp.mk (HB.out.trans (hb.mono HB.out.size)); clear hb
    have H5 := Kp.mk (heap_alloc_new w2 (.cells #[.int .i64 0, .int .i64 0, .string ⟨#[]⟩] 93)); replace H0 := Kp.mk (blk_alloc (o2 := .cells #[.int .i64 0, .int .i64 0, .string ⟨#[]⟩] 93) H0.out); replace HB := Kp.mk (HB.out.alloc HB.out.size (.cells #[.int .i64 0, .int .i64 0, .string ⟨#[]⟩] 93))
    go_wp2_with fail
    refine (HTried.out _).mono ?_
    rintro e w3 ⟨rfl, hb⟩
    replace H0 := Kp.mk ((hb.block _ (blk_lt H0.out)).trans H0.out); replace H5 := Kp.mk ((hb.block _ (blk_lt H5.out)).trans H5.out); replace HB := Kp.mk (HB.out.trans (hb.mono HB.out.size)); clear hb
    have H7 := Kp.mk (heap_alloc_new w3 (.cells #[.int .i64 0, .int .i64 0, .string ⟨#[]⟩] 93)); replace H0 := Kp.mk (blk_alloc (o2 := .cells #[.int .i64 0, .int .i64 0, .string ⟨#[]⟩] 93) H0.out); replace H5 := Kp.mk (blk_alloc (o2 := .cells #[.int .i64 0, .int .i64 0, .string ⟨#[]⟩] 93) H5.out); replace HB := Kp.mk (HB.out.alloc HB.out.size (.cells #[.int .i64 0, .int .i64 0, .string ⟨#[]⟩] 93))
    go_wp2_with fail
    refine (HConn.out _).mono ?_
    rintro e w4 ⟨rfl, hb⟩
    replace H0 := Kp.mk ((hb.block _ (blk_lt H0.out)).trans H0.out); replace H5 := Kp.mk ((hb.block _ (blk_lt H5.out)).trans H5.out); replace H7 := Kp.mk ((hb.block _ (blk_lt H7.out)).trans H7.out); replace HB := Kp.mk (HB.out.trans (hb.mono HB.out.size)); clear hb
    have H9 := Kp.mk (heap_alloc_new w4 (.cells #[.int .i64 0, .int .i64 0] 85)); replace H0 := Kp.mk (blk_alloc (o2 := .cells #[.int .i64 0, .int .i64 0] 85) H0.out); replace H5 := Kp.mk (blk_alloc (o2 := .cells #[.int .i64 0, .int .i64 0] 85) H5.out); replace H7 := Kp.mk (blk_alloc (o2 := .cells #[.int .i64 0, .int .i64 0] 85) H7.out); replace HB := Kp.mk (HB.out.alloc HB.out.size (.cells #[.int .i64 0, .int .i64 0] 85))
    have HX := Kp.mk (show AB w2.heap.size w3.heap.size w4.heap.size #[.int .i64 op, .int .i64 c, .int .i64 o, .int .i64 n, .string T] #[.int .i64 0, .int .i64 0, .string ⟨#[]⟩] #[.int .i64 0, .int .i64 0] w _ from ⟨H0.out, H5.out, H7.out, H9.out, HB.out⟩)
    clear H0 H5 H7 H9 HB
    have e0 := blk_cell (i := 0) HX.out.h0 rfl
    have e1 := blk_cell (i := 1) HX.out.h0 rfl
    have e2 := blk_cell (i := 2) HX.out.h0 rfl
    have e3 := blk_cell (i := 3) HX.out.h0 rfl
    have e4 := blk_cell (i := 4) HX.out.h0 rfl
    go_wp2_with fail
    try rw [← HT.out]
    refine (HRight.out _).mono ?_
    rintro e w5 ⟨rfl, hb⟩
    replace HX := Kp.mk (HX.out.below hb)
    clear hb e0 e1 e2 e3 e4
    have e0 := blk_cell (i := 0) HX.out.h0 rfl
    have e1 := blk_cell (i := 1) HX.out.h0 rfl
    have e2 := blk_cell (i := 2) HX.out.h0 rfl
    have e3 := blk_cell (i := 3) HX.out.h0 rfl
    have e4 := blk_cell (i := 4) HX.out.h0 rfl
    go_upto_region 8 with fail
    have HD := Kp.mk (HX.out.below (gdrewN _ 1))
    haveI hne : Nonempty (InS (AB w2.heap.size w3.heap.size w4.heap.size #[.int .i64 op, .int .i64 c, .int .i64 o, .int .i64 n, .string T] #[.int .i64 0, .int .i64 0, .string ⟨#[]⟩] #[.int .i64 0, .int .i64 0] w)) := ⟨⟨_, HX.out⟩⟩
    have p0 := fun p : InS (AB w2.heap.size w3.heap.size w4.heap.size #[.int .i64 op, .int .i64 c, .int .i64 o, .int .i64 n, .string T] #[.int .i64 0, .int .i64 0, .string ⟨#[]⟩] #[.int .i64 0, .int .i64 0] w) => blk_cell (i := 0) p.ok.h0 rfl
    have p1 := fun p : InS (AB w2.heap.size w3.heap.size w4.heap.size #[.int .i64 op, .int .i64 c, .int .i64 o, .int .i64 n, .string T] #[.int .i64 0, .int .i64 0, .string ⟨#[]⟩] #[.int .i64 0, .int .i64 0] w) => blk_cell (i := 1) p.ok.h0 rfl
    have p2 := fun p : InS (AB w2.heap.size w3.heap.size w4.heap.size #[.int .i64 op, .int .i64 c, .int .i64 o, .int .i64 n, .string T] #[.int .i64 0, .int .i64 0, .string ⟨#[]⟩] #[.int .i64 0, .int .i64 0] w) => blk_cell (i := 2) p.ok.h0 rfl
    have p3 := fun p : InS (AB w2.heap.size w3.heap.size w4.heap.size #[.int .i64 op, .int .i64 c, .int .i64 o, .int .i64 n, .string T] #[.int .i64 0, .int .i64 0, .string ⟨#[]⟩] #[.int .i64 0, .int .i64 0] w) => blk_cell (i := 3) p.ok.h0 rfl
    have p4 := fun p : InS (AB w2.heap.size w3.heap.size w4.heap.size #[.int .i64 op, .int .i64 c, .int .i64 o, .int .i64 n, .string T] #[.int .i64 0, .int .i64 0, .string ⟨#[]⟩] #[.int .i64 0, .int .i64 0] w) => blk_cell (i := 4) p.ok.h0 rfl
    have q0 := fun p : InS (AB w2.heap.size w3.heap.size w4.heap.size #[.int .i64 op, .int .i64 c, .int .i64 o, .int .i64 n, .string T] #[.int .i64 0, .int .i64 0, .string ⟨#[]⟩] #[.int .i64 0, .int .i64 0] w) => blk_cell (i := 0) p.ok.h5 rfl
    have q1 := fun p : InS (AB w2.heap.size w3.heap.size w4.heap.size #[.int .i64 op, .int .i64 c, .int .i64 o, .int .i64 n, .string T] #[.int .i64 0, .int .i64 0, .string ⟨#[]⟩] #[.int .i64 0, .int .i64 0] w) => blk_cell (i := 1) p.ok.h5 rfl
    have q2 := fun p : InS (AB w2.heap.size w3.heap.size w4.heap.size #[.int .i64 op, .int .i64 c, .int .i64 o, .int .i64 n, .string T] #[.int .i64 0, .int .i64 0, .string ⟨#[]⟩] #[.int .i64 0, .int .i64 0] w) => blk_cell (i := 2) p.ok.h5 rfl
    have r0 := fun p : InS (AB w2.heap.size w3.heap.size w4.heap.size #[.int .i64 op, .int .i64 c, .int .i64 o, .int .i64 n, .string T] #[.int .i64 0, .int .i64 0, .string ⟨#[]⟩] #[.int .i64 0, .int .i64 0] w) => blk_cell (i := 0) p.ok.h7 rfl
    have r1 := fun p : InS (AB w2.heap.size w3.heap.size w4.heap.size #[.int .i64 op, .int .i64 c, .int .i64 o, .int .i64 n, .string T] #[.int .i64 0, .int .i64 0, .string ⟨#[]⟩] #[.int .i64 0, .int .i64 0] w) => blk_cell (i := 1) p.ok.h7 rfl
    have r2 := fun p : InS (AB w2.heap.size w3.heap.size w4.heap.size #[.int .i64 op, .int .i64 c, .int .i64 o, .int .i64 n, .string T] #[.int .i64 0, .int .i64 0, .string ⟨#[]⟩] #[.int .i64 0, .int .i64 0] w) => blk_cell (i := 2) p.ok.h7 rfl
    refine region_in _ (by kernel_rfl) (by kernel_rfl) HD.out ?_
    iterate 43 (go_big_quiet_step (fail))
    refine wpQuiet_nil ?_
    intro _ hw'
    obtain ⟨wq, rfl⟩ := hw'
    have HQ := Kp.mk wq.ok
    have e0 := blk_cell (i := 0) HQ.out.h0 rfl
    have e1 := blk_cell (i := 1) HQ.out.h0 rfl
    have e2 := blk_cell (i := 2) HQ.out.h0 rfl
    have k0 := blk_cell (i := 0) HQ.out.h9 rfl
    have k1 := blk_cell (i := 1) HQ.out.h9 rfl
    go_wp2_with fail
    refine (lives44_any _).mono ?_
    rintro e w6 ⟨rfl, hb⟩
    go_wp2_with fail
    go_ret
    exact ⟨rfl, HQ.out.bel.trans (hb.mono HQ.out.bel.size)⟩
end Go.Proofs.Ytgogoncpnfojkaa
