/- Dates of fields (layer 6): the document's Write in forms 2 and 3 (bin/mkdtk.py, out of Dte's text). -/
import Derived.Test.YtgogoncpnfojkaaDtj
namespace Go.Proofs.Ytgogoncpnfojkaa
open Go.RowKit
set_option linter.unusedVariables false
set_option linter.unusedSimpArgs false

def eldT (k mn : Nat) (y d H M S : Int) : ByteArray := wdS k ++ ⟨#[44, 32]⟩ ++ ofL (padL d 2) ++ ⟨#[45]⟩ ++ moS mn ++ ⟨#[45]⟩ ++ ofL (padL (y % 100) 2) ++ ⟨#[32]⟩ ++ ofL (clkL H M S) ++ ⟨#[32, 71, 77, 84]⟩
def dayT (d : Int) : ByteArray := if d < 10 then ⟨#[32]⟩ ++ ofL (padL d 1) else ofL (padL d 1)
def plaT (k mn : Nat) (y d H M S : Int) : ByteArray := ofL (wd3 k) ++ ⟨#[32]⟩ ++ moS mn ++ ⟨#[32]⟩ ++ dayT d ++ ⟨#[32]⟩ ++ ofL (clkL H M S) ++ ⟨#[32]⟩ ++ ofL (padL y 4)
theorem padL_one {x : Int} (h : 0 ≤ x) : padL x 1 = wdig 10 1 x.toNat := by unfold padL; rw [if_neg (by omega)]; rfl
theorem wd_nine (k : Nat) (hk : k < 7) : (wdS k).data.toList.take 9 = (wdS k).data.toList := by
  rcases (by omega : k = 0 ∨ k = 1 ∨ k = 2 ∨ k = 3 ∨ k = 4 ∨ k = 5 ∨ k = 6) with rfl | rfl | rfl | rfl | rfl | rfl | rfl
  all_goals decide
theorem eld_text (n : Int) (mn : Nat) (hmn : dyM n - 1 = (mn : Int)) (h : placeB (n / 86400) = true) : eldT (wkN n) mn (dyY n) (dyD n) (dH n) (dM n) (dS n) = ofL (elderN n) := by
  obtain ⟨y0, y1, m0, m1, d0, d1⟩ := date_ranges n h
  obtain ⟨a0, a1, b0, b1, c0, c1⟩ := time_ranges n
  refine ba_ext ?_
  have hm : (dyM n - 1).toNat = mn := by rw [hmn]; rfl
  have e0 := padL_two (x := dyD n) (by omega)
  have e1 := padL_two (x := dyY n % 100) (by omega)
  have e2 := padL_two a0
  have e3 := padL_two b0
  have e4 := padL_two c0
  simp [eldT, ofL, clkL, elderN, elder2, ByteArray.data_append, hm, e0, e1, e2, e3, e4, wd_nine _ (wkN_lt n)]
theorem pla_text (n : Int) (mn : Nat) (hmn : dyM n - 1 = (mn : Int)) (h : placeB (n / 86400) = true) : plaT (wkN n) mn (dyY n) (dyD n) (dH n) (dM n) (dS n) = ofL (plainN n) := by
  obtain ⟨y0, y1, m0, m1, d0, d1⟩ := date_ranges n h
  obtain ⟨a0, a1, b0, b1, c0, c1⟩ := time_ranges n
  refine ba_ext ?_
  have hm : (dyM n - 1).toNat = mn := by rw [hmn]; rfl
  have e0 := padL_one (x := dyD n) (by omega)
  have e1 := padL_four (x := dyY n) (by omega)
  have e2 := padL_two a0
  have e3 := padL_two b0
  have e4 := padL_two c0
  unfold plaT dayT plainN plain3 dayL
  by_cases h10 : dyD n < 10
  · rw [if_pos h10, if_pos (by omega)]
    simp [ofL, clkL, ByteArray.data_append, hm, e0, e1, e2, e3, e4]
  · rw [if_neg h10, if_neg (by omega)]
    simp [ofL, clkL, ByteArray.data_append, hm, e0, e1, e2, e3, e4]
set_option maxRecDepth 100000 in
set_option maxHeartbeats 4000000 in
theorem rwrite2_of (y m d H M S : Int) (k mn : Nat) (hkl : k < 7) (hy0 : 0 ≤ y) (hmn : m - 1 = (mn : Int)) (hml : mn < 12) (hb : (-1000 ≤ d ∧ d ≤ 100000) ∧ (-1000 ≤ y ∧ y ≤ 100000) ∧ (-1000 ≤ H ∧ H ≤ 100000) ∧ (-1000 ≤ M ∧ M ≤ 100000) ∧ (-1000 ≤ S ∧ S ≤ 100000)) (hday : ∀ w, Calls Try.prog 85 #[.agg #[.int .i64 y, .int .i64 m, .int .i64 d, .int .i64 H, .int .i64 M, .int .i64 S]] w fun e w' => e = .returned (.int .i64 k) ∧ Below w.heap.size w w') (w : World) :
    Calls Try.prog 37 #[.agg #[.int .i64 y, .int .i64 m, .int .i64 d, .int .i64 H, .int .i64 M, .int .i64 S], .int .i64 2] w fun e w' => e = .returned (.string (eldT k mn y d H M S)) ∧ Below w.heap.size w w' := by
  have HX := Kp.mk (DBx.new #[.int .i64 y, .int .i64 m, .int .i64 d, .int .i64 H, .int .i64 M, .int .i64 S] w)
  have HDAY := Kp.mk hday
  have HCLK := Kp.mk (fun w => rclock_any y m d H M S w hb)
  have HTX := Kp.mk (show eldT k mn y d H M S = wdS k ++ ⟨#[44, 32]⟩ ++ ofL (padL d 2) ++ ⟨#[45]⟩ ++ moS mn ++ ⟨#[45]⟩ ++ ofL (padL (y % 100) 2) ++ ⟨#[32]⟩ ++ ofL (clkL H M S) ++ ⟨#[32, 71, 77, 84]⟩ from rfl)
  have hq : y.tmod 100 = y % 100 := Int.tmod_eq_emod_of_nonneg hy0
  have hqb : 0 ≤ y % 100 ∧ y % 100 ≤ 99 := by omega
  have l6 : (ofL (padL (y % 100) 2)).size ≤ 21 := by rw [ofL_size]; exact padL_len _ _
  have l7 : (wdS k).size ≤ 9 := by have := wdS_size _ hkl; omega
  generalize y % 100 = q at *
  have H3 := Kp.mk (wd3_ext k)
  have hz3 : (3 : Int) ≤ ((wdS k).size : Int) := by have := wdS_size _ hkl; omega
  have HMC := Kp.mk (moC_at mn hml)
  have HWC := Kp.mk (wdC_at k hkl)
  have hwm : IntKind.i64.wrap (mn : Int) = (mn : Int) := by first | exact wrap_small _ (by omega) (by omega) | (simp [IntKind.wrap, IntKind.signed, IntKind.bits, wrap64]; omega)
  have hk7 : ((k : Nat) : Int) < 7 := by omega
  have hm12 : (mn : Int) < 12 := by omega
  have C2 := Kp.mk (fun w => rpad2_any d w (by omega) (by omega))
  have C4 := Kp.mk (fun w => rpad4_any y w (by omega) (by omega))
  have l1 : (ofL (wd3 k)).size = 3 := by rw [ofL_size]; exact wd3_len _ hkl
  have l2 : (ofL (padL d 2)).size ≤ 21 := by rw [ofL_size]; exact padL_len _ _
  have l3 : (ofL (padL y 4)).size ≤ 21 := by rw [ofL_size]; exact padL_len _ _
  have l4 : (ofL (clkL H M S)).size ≤ 100 := by
    rw [ofL_size]
    have a := padL_len H 2
    have b := padL_len M 2
    have c := padL_len S 2
    simp only [clkL, List.length_append, List.length_cons, List.length_nil]
    omega
  have l5 := moS_le mn
  have HD := Kp.mk (show DBx #[.int .i64 y, .int .i64 m, .int .i64 d, .int .i64 H, .int .i64 M, .int .i64 S] w ((w.alloc (.cells #[.int .i64 y, .int .i64 m, .int .i64 d, .int .i64 H, .int .i64 M, .int .i64 S] 60)).drew) from HX.out.below (gdrewN _ 1))
  have c0 := blk_cell (i := 0) HX.out.box rfl
  have c1 := blk_cell (i := 1) HX.out.box rfl
  have c2 := blk_cell (i := 2) HX.out.box rfl
  have c3 := blk_cell (i := 3) HX.out.box rfl
  have c4 := blk_cell (i := 4) HX.out.box rfl
  have c5 := blk_cell (i := 5) HX.out.box rfl
  generalize hfx : eldT k mn y d H M S = FX at *
  have HBD := Kp.mk hb
  clear hb hday hfx
  go_enter Try.func37, Try.ntmps37
  go_upto_region 1 with fail
  refine wp_region_held_drew (S := fun w' => w'.cell? ⟨w.heap.size, 0, none⟩ = some (.int .i64 y) ∧ w'.cell? ⟨w.heap.size, 1, none⟩ = some (.int .i64 m) ∧ w'.cell? ⟨w.heap.size, 2, none⟩ = some (.int .i64 d) ∧ w'.cell? ⟨w.heap.size, 3, none⟩ = some (.int .i64 H) ∧ w'.cell? ⟨w.heap.size, 4, none⟩ = some (.int .i64 M) ∧ w'.cell? ⟨w.heap.size, 5, none⟩ = some (.int .i64 S)) (by kernel_rfl) (⟨blk_cell (i := 0) HD.out.box rfl, blk_cell (i := 1) HD.out.box rfl, blk_cell (i := 2) HD.out.box rfl, blk_cell (i := 3) HD.out.box rfl, blk_cell (i := 4) HD.out.box rfl, blk_cell (i := 5) HD.out.box rfl⟩) (fun hHeld => ?_)
  refine wpAnyH_take (i := 1) (oi := ⟨some 9, .load 60 (.tmp 2), _, _, _, none⟩) (v := ?_) rfl (by kernel_rfl) (by kernel_rfl) (by kernel_rfl) (fun _ _ _ h => h) (Or.inl ⟨by rfl, ?_⟩) (by assumption) ?_
  rotate_left
  · intro w hSw
    try dsimp only at hSw
    go_simp
    try with_reducible rfl
  try simp only [Act.put, List.setIfInBounds_toArray, List.set_cons_zero, List.set_cons_succ]
  refine wpAnyH_take (i := 6) (oi := ⟨some 14, .fieldAddr 60 (.tmp 2) 1, _, _, _, none⟩) (v := ?_) rfl (by kernel_rfl) (by kernel_rfl) (by kernel_rfl) (fun _ _ _ h => h) (Or.inl ⟨by rfl, ?_⟩) (by assumption) ?_
  rotate_left
  · intro w hSw
    try dsimp only at hSw
    go_simp
    try with_reducible rfl
  try simp only [Act.put, List.setIfInBounds_toArray, List.set_cons_zero, List.set_cons_succ]
  refine wpAnyH_take (i := 7) (oi := ⟨some 15, .load 3 (.tmp 14), _, _, _, none⟩) (v := ?_) rfl (by kernel_rfl) (by kernel_rfl) (by kernel_rfl) (fun _ _ _ h => h) (Or.inl ⟨by rfl, ?_⟩) (by assumption) ?_
  rotate_left
  · intro w hSw
    try dsimp only at hSw
    go_simp
    try with_reducible rfl
  try simp only [Act.put, List.setIfInBounds_toArray, List.set_cons_zero, List.set_cons_succ]
  refine wpAnyH_take (i := 8) (oi := ⟨some 16, .binOp .sub 3 (.tmp 15) (.const (.int .i64 1)) 3, _, _, _, none⟩) (v := ?_) rfl (by kernel_rfl) (by kernel_rfl) (by kernel_rfl) (fun _ _ _ h => h) (Or.inl ⟨by rfl, ?_⟩) (by assumption) ?_
  rotate_left
  · intro w hSw
    try dsimp only at hSw
    go_simp
    try with_reducible rfl
  try simp only [Act.put, List.setIfInBounds_toArray, List.set_cons_zero, List.set_cons_succ]
  refine wpAnyH_ready (rs := [0]) (by kernel_rfl) (by simp) ?_
  refine AllReadyH.cons (o := ⟨some 8, _, _, _, _, none⟩) rfl (fun K hK => ?_) AllReadyH.nil
  go_simp
  (go_at_call 93; refine (rdays6_any _).mono ?_; rintro e wn ⟨rfl, hb, hk⟩)
  replace hk := (show wn.heap[w.heap.size + 1]? = some (.cells wdC 9 (0, 0)) by simpa using hk)
  have HW1 := Kp.mk hk
  have dk := blk_cell (i := k) hk HWC.out
  replace HD := Kp.mk (HD.out.below hb)
  clear hb hk
  try go_wp2_with fail
  refine hK.out _ _ (⟨blk_cell (i := 0) HD.out.box rfl, blk_cell (i := 1) HD.out.box rfl, blk_cell (i := 2) HD.out.box rfl, blk_cell (i := 3) HD.out.box rfl, blk_cell (i := 4) HD.out.box rfl, blk_cell (i := 5) HD.out.box rfl⟩) (fun hHeld2 => ?_)
  clear hK K
  try simp only [Act.put, List.setIfInBounds_toArray, List.set_cons_zero, List.set_cons_succ]
  refine wpAnyH_more (S2 := fun w' => (w'.cell? ⟨w.heap.size, 0, none⟩ = some (.int .i64 y) ∧ w'.cell? ⟨w.heap.size, 1, none⟩ = some (.int .i64 m) ∧ w'.cell? ⟨w.heap.size, 2, none⟩ = some (.int .i64 d) ∧ w'.cell? ⟨w.heap.size, 3, none⟩ = some (.int .i64 H) ∧ w'.cell? ⟨w.heap.size, 4, none⟩ = some (.int .i64 M) ∧ w'.cell? ⟨w.heap.size, 5, none⟩ = some (.int .i64 S)) ∧ w'.cell? ⟨w.heap.size + 1, k, none⟩ = some (.string (wdS k))) (fun w h => h.1) _ _ _ _ ?_
  have hHeld7 := And.intro hHeld2 dk
  clear hHeld2
  refine wpAnyH_ready (rs := [2]) (by kernel_rfl) (by simp) ?_
  refine AllReadyH.cons (o := ⟨some 10, _, _, _, _, none⟩) rfl (fun K hK => ?_) AllReadyH.nil
  go_simp
  (go_at_call 85; refine (HDAY.out _).mono ?_; rintro e wn2 ⟨rfl, hb⟩)
  replace HW1 := Kp.mk ((hb.block _ (blk_lt HW1.out)).trans HW1.out)
  clear dk
  have dk := blk_cell (i := k) HW1.out HWC.out
  replace HD := Kp.mk (HD.out.below hb)
  clear hb
  try go_wp2_with fail
  refine hK.out _ _ (⟨⟨blk_cell (i := 0) HD.out.box rfl, blk_cell (i := 1) HD.out.box rfl, blk_cell (i := 2) HD.out.box rfl, blk_cell (i := 3) HD.out.box rfl, blk_cell (i := 4) HD.out.box rfl, blk_cell (i := 5) HD.out.box rfl⟩, dk⟩) (fun hHeld2 => ?_)
  clear hK K
  try simp only [Act.put, List.setIfInBounds_toArray, List.set_cons_zero, List.set_cons_succ]
  refine wpAnyH_take (i := 3) (oi := ⟨some 11, .indexAddr 100 (.tmp 8) (.tmp 10), _, _, _, none⟩) (v := ?_) rfl (by kernel_rfl) (by kernel_rfl) (by kernel_rfl) (fun _ _ _ h => h) (Or.inl ⟨by rfl, ?_⟩) (by assumption) ?_
  rotate_left
  · intro w hSw
    try dsimp only at hSw
    go_simp
    try with_reducible rfl
  try simp only [Act.put, List.setIfInBounds_toArray, List.set_cons_zero, List.set_cons_succ]
  refine wpAnyH_take (i := 4) (oi := ⟨some 12, .load 9 (.tmp 11), _, _, _, none⟩) (v := ?_) rfl (by kernel_rfl) (by kernel_rfl) (by kernel_rfl) (fun _ _ _ h => h) (Or.inl ⟨by rfl, ?_⟩) (by assumption) ?_
  rotate_left
  · intro w hSw
    try dsimp only at hSw
    go_simp
    try with_reducible rfl
  try simp only [Act.put, List.setIfInBounds_toArray, List.set_cons_zero, List.set_cons_succ]
  refine wpAnyH_ready (rs := [5]) (by kernel_rfl) (by simp) ?_
  refine AllReadyH.cons (o := ⟨some 13, _, _, _, _, none⟩) rfl (fun K hK => ?_) AllReadyH.nil
  go_simp
  (go_at_call 94; refine (rmonths6_any _).mono ?_; rintro e wn3 ⟨rfl, hb, hk⟩)
  replace HW1 := Kp.mk ((hb.block _ (blk_lt HW1.out)).trans HW1.out)
  clear dk
  have dk := blk_cell (i := k) HW1.out HWC.out
  have dm := blk_cell (i := mn) hk HMC.out
  replace HD := Kp.mk (HD.out.below hb)
  clear hb hk
  generalize wn2.heap.size = wm at *
  try go_wp2_with fail
  refine hK.out _ _ (⟨⟨blk_cell (i := 0) HD.out.box rfl, blk_cell (i := 1) HD.out.box rfl, blk_cell (i := 2) HD.out.box rfl, blk_cell (i := 3) HD.out.box rfl, blk_cell (i := 4) HD.out.box rfl, blk_cell (i := 5) HD.out.box rfl⟩, dk⟩) (fun hHeld2 => ?_)
  clear hK K
  try simp only [Act.put, List.setIfInBounds_toArray, List.set_cons_zero, List.set_cons_succ]
  refine wpAnyH_more (S2 := fun w' => ((w'.cell? ⟨w.heap.size, 0, none⟩ = some (.int .i64 y) ∧ w'.cell? ⟨w.heap.size, 1, none⟩ = some (.int .i64 m) ∧ w'.cell? ⟨w.heap.size, 2, none⟩ = some (.int .i64 d) ∧ w'.cell? ⟨w.heap.size, 3, none⟩ = some (.int .i64 H) ∧ w'.cell? ⟨w.heap.size, 4, none⟩ = some (.int .i64 M) ∧ w'.cell? ⟨w.heap.size, 5, none⟩ = some (.int .i64 S)) ∧ w'.cell? ⟨w.heap.size + 1, k, none⟩ = some (.string (wdS k))) ∧ w'.cell? ⟨wm, mn, none⟩ = some (.string (moS mn))) (fun w h => h.1) _ _ _ _ ?_
  have hHeld8 := And.intro hHeld2 dm
  clear hHeld2
  refine wpAnyH_take (i := 9) (oi := ⟨some 17, .indexAddr 100 (.tmp 13) (.tmp 16), _, _, _, none⟩) (v := ?_) rfl (by kernel_rfl) (by kernel_rfl) (by kernel_rfl) (fun _ _ _ h => h) (Or.inl ⟨by rfl, ?_⟩) (by assumption) ?_
  rotate_left
  · intro w hSw
    try dsimp only at hSw
    go_simp
    try with_reducible rfl
  try simp only [Act.put, List.setIfInBounds_toArray, List.set_cons_zero, List.set_cons_succ]
  refine wpAnyH_take (i := 10) (oi := ⟨some 18, .load 9 (.tmp 17), _, _, _, none⟩) (v := ?_) rfl (by kernel_rfl) (by kernel_rfl) (by kernel_rfl) (fun _ _ _ h => h) (Or.inl ⟨by rfl, ?_⟩) (by assumption) ?_
  rotate_left
  · intro w hSw
    try dsimp only at hSw
    go_simp
    try with_reducible rfl
  try simp only [Act.put, List.setIfInBounds_toArray, List.set_cons_zero, List.set_cons_succ]
  refine wpAnyH_take (i := 11) (oi := ⟨some 5, .assign (.tmp 12), _, _, _, none⟩) (v := ?_) rfl (by kernel_rfl) (by kernel_rfl) (by kernel_rfl) (fun _ _ _ h => h) (Or.inl ⟨by rfl, ?_⟩) (by assumption) ?_
  rotate_left
  · intro w hSw
    try dsimp only at hSw
    go_simp
    try with_reducible rfl
  try simp only [Act.put, List.setIfInBounds_toArray, List.set_cons_zero, List.set_cons_succ]
  refine wpAnyH_take (i := 12) (oi := ⟨some 6, .assign (.tmp 18), _, _, _, none⟩) (v := ?_) rfl (by kernel_rfl) (by kernel_rfl) (by kernel_rfl) (fun _ _ _ h => h) (Or.inl ⟨by rfl, ?_⟩) (by assumption) ?_
  rotate_left
  · intro w hSw
    try dsimp only at hSw
    go_simp
    try with_reducible rfl
  try simp only [Act.put, List.setIfInBounds_toArray, List.set_cons_zero, List.set_cons_succ]
  refine wpAnyH_done (by kernel_rfl) ?_ _
  have l0 : ((wdS k).extract 0 3).size = 3 := by rw [H3.out]; exact l1
  have p0 := fun p : InS (DBx #[.int .i64 y, .int .i64 m, .int .i64 d, .int .i64 H, .int .i64 M, .int .i64 S] w) => blk_cell (i := 0) p.ok.box rfl
  have p1 := fun p : InS (DBx #[.int .i64 y, .int .i64 m, .int .i64 d, .int .i64 H, .int .i64 M, .int .i64 S] w) => blk_cell (i := 1) p.ok.box rfl
  have p2 := fun p : InS (DBx #[.int .i64 y, .int .i64 m, .int .i64 d, .int .i64 H, .int .i64 M, .int .i64 S] w) => blk_cell (i := 2) p.ok.box rfl
  have p3 := fun p : InS (DBx #[.int .i64 y, .int .i64 m, .int .i64 d, .int .i64 H, .int .i64 M, .int .i64 S] w) => blk_cell (i := 3) p.ok.box rfl
  have p4 := fun p : InS (DBx #[.int .i64 y, .int .i64 m, .int .i64 d, .int .i64 H, .int .i64 M, .int .i64 S] w) => blk_cell (i := 4) p.ok.box rfl
  have p5 := fun p : InS (DBx #[.int .i64 y, .int .i64 m, .int .i64 d, .int .i64 H, .int .i64 M, .int .i64 S] w) => blk_cell (i := 5) p.ok.box rfl
  haveI hne : Nonempty (InS (DBx #[.int .i64 y, .int .i64 m, .int .i64 d, .int .i64 H, .int .i64 M, .int .i64 S] w)) := ⟨⟨_, HD.out⟩⟩
  have HD2 := Kp.mk (show DBx #[.int .i64 y, .int .i64 m, .int .i64 d, .int .i64 H, .int .i64 M, .int .i64 S] w wn3.drew from HD.out.below (gdrewN _ 1))
  obtain ⟨⟨b1, b2⟩, ⟨b3, b4⟩, -⟩ := HBD.out
  go_wp2_with fail
  refine region_in _ (by kernel_rfl) (by kernel_rfl) HD2.out ?_
  iterate 4 (go_big_quiet_step (fail))
  go_big_quiet_step ((go_at_call 95; exact call_in fun w h => (rpad2_any _ w (by omega) (by omega)).mono fun _ _ h2 => ⟨h2.1, h.below h2.2⟩))
  iterate 8 (go_big_quiet_step (fail))
  go_big_quiet_step ((go_at_call 95; exact call_in fun w h => (rpad2_any _ w (by omega) (by omega)).mono fun _ _ h2 => ⟨h2.1, h.below h2.2⟩))
  iterate 3 (go_big_quiet_step (fail))
  go_big_quiet_step ((go_at_call 96; exact call_in fun w h => (HCLK.out w).mono fun _ _ h2 => ⟨h2.1, h.below h2.2⟩))
  iterate 3 (go_big_quiet_step (fail))
  refine wpQuiet_nil ?_
  intro _ hw'
  obtain ⟨wq, rfl⟩ := hw'
  go_wp2_with fail
  go_ret
  exact ⟨by rw [HTX.out]; rfl, wq.ok.bel⟩
set_option maxRecDepth 100000 in
set_option maxHeartbeats 4000000 in
theorem rwrite3_of (y m d H M S : Int) (k mn : Nat) (hkl : k < 7) (hy0 : 0 ≤ y) (hmn : m - 1 = (mn : Int)) (hml : mn < 12) (hb : (-1000 ≤ d ∧ d ≤ 100000) ∧ (-1000 ≤ y ∧ y ≤ 100000) ∧ (-1000 ≤ H ∧ H ≤ 100000) ∧ (-1000 ≤ M ∧ M ≤ 100000) ∧ (-1000 ≤ S ∧ S ≤ 100000)) (hday : ∀ w, Calls Try.prog 85 #[.agg #[.int .i64 y, .int .i64 m, .int .i64 d, .int .i64 H, .int .i64 M, .int .i64 S]] w fun e w' => e = .returned (.int .i64 k) ∧ Below w.heap.size w w') (w : World) :
    Calls Try.prog 37 #[.agg #[.int .i64 y, .int .i64 m, .int .i64 d, .int .i64 H, .int .i64 M, .int .i64 S], .int .i64 3] w fun e w' => e = .returned (.string (plaT k mn y d H M S)) ∧ Below w.heap.size w w' := by
  have HX := Kp.mk (DBx.new #[.int .i64 y, .int .i64 m, .int .i64 d, .int .i64 H, .int .i64 M, .int .i64 S] w)
  have HDAY := Kp.mk hday
  have HCLK := Kp.mk (fun w => rclock_any y m d H M S w hb)
  have HTX := Kp.mk (show plaT k mn y d H M S = ofL (wd3 k) ++ ⟨#[32]⟩ ++ moS mn ++ ⟨#[32]⟩ ++ dayT d ++ ⟨#[32]⟩ ++ ofL (clkL H M S) ++ ⟨#[32]⟩ ++ ofL (padL y 4) from rfl)
  have l6 : (ofL (padL d 1)).size ≤ 21 := by rw [ofL_size]; exact padL_len _ _
  have H3 := Kp.mk (wd3_ext k)
  have hz3 : (3 : Int) ≤ ((wdS k).size : Int) := by have := wdS_size _ hkl; omega
  have HMC := Kp.mk (moC_at mn hml)
  have HWC := Kp.mk (wdC_at k hkl)
  have hwm : IntKind.i64.wrap (mn : Int) = (mn : Int) := by first | exact wrap_small _ (by omega) (by omega) | (simp [IntKind.wrap, IntKind.signed, IntKind.bits, wrap64]; omega)
  have hk7 : ((k : Nat) : Int) < 7 := by omega
  have hm12 : (mn : Int) < 12 := by omega
  have C2 := Kp.mk (fun w => rpad2_any d w (by omega) (by omega))
  have C4 := Kp.mk (fun w => rpad4_any y w (by omega) (by omega))
  have l1 : (ofL (wd3 k)).size = 3 := by rw [ofL_size]; exact wd3_len _ hkl
  have l2 : (ofL (padL d 2)).size ≤ 21 := by rw [ofL_size]; exact padL_len _ _
  have l3 : (ofL (padL y 4)).size ≤ 21 := by rw [ofL_size]; exact padL_len _ _
  have l4 : (ofL (clkL H M S)).size ≤ 100 := by
    rw [ofL_size]
    have a := padL_len H 2
    have b := padL_len M 2
    have c := padL_len S 2
    simp only [clkL, List.length_append, List.length_cons, List.length_nil]
    omega
  have l5 := moS_le mn
  have HD := Kp.mk (show DBx #[.int .i64 y, .int .i64 m, .int .i64 d, .int .i64 H, .int .i64 M, .int .i64 S] w ((w.alloc (.cells #[.int .i64 y, .int .i64 m, .int .i64 d, .int .i64 H, .int .i64 M, .int .i64 S] 60)).drew) from HX.out.below (gdrewN _ 1))
  have c0 := blk_cell (i := 0) HX.out.box rfl
  have c1 := blk_cell (i := 1) HX.out.box rfl
  have c2 := blk_cell (i := 2) HX.out.box rfl
  have c3 := blk_cell (i := 3) HX.out.box rfl
  have c4 := blk_cell (i := 4) HX.out.box rfl
  have c5 := blk_cell (i := 5) HX.out.box rfl
  generalize hfx : plaT k mn y d H M S = FX at *
  have HBD := Kp.mk hb
  clear hb hday hfx
  go_enter Try.func37, Try.ntmps37
  go_upto_region 1 with fail
  refine wp_region_held_drew (S := fun w' => w'.cell? ⟨w.heap.size, 0, none⟩ = some (.int .i64 y) ∧ w'.cell? ⟨w.heap.size, 1, none⟩ = some (.int .i64 m) ∧ w'.cell? ⟨w.heap.size, 2, none⟩ = some (.int .i64 d) ∧ w'.cell? ⟨w.heap.size, 3, none⟩ = some (.int .i64 H) ∧ w'.cell? ⟨w.heap.size, 4, none⟩ = some (.int .i64 M) ∧ w'.cell? ⟨w.heap.size, 5, none⟩ = some (.int .i64 S)) (by kernel_rfl) (⟨blk_cell (i := 0) HD.out.box rfl, blk_cell (i := 1) HD.out.box rfl, blk_cell (i := 2) HD.out.box rfl, blk_cell (i := 3) HD.out.box rfl, blk_cell (i := 4) HD.out.box rfl, blk_cell (i := 5) HD.out.box rfl⟩) (fun hHeld => ?_)
  refine wpAnyH_take (i := 1) (oi := ⟨some 9, .load 60 (.tmp 2), _, _, _, none⟩) (v := ?_) rfl (by kernel_rfl) (by kernel_rfl) (by kernel_rfl) (fun _ _ _ h => h) (Or.inl ⟨by rfl, ?_⟩) (by assumption) ?_
  rotate_left
  · intro w hSw
    try dsimp only at hSw
    go_simp
    try with_reducible rfl
  try simp only [Act.put, List.setIfInBounds_toArray, List.set_cons_zero, List.set_cons_succ]
  refine wpAnyH_take (i := 6) (oi := ⟨some 14, .fieldAddr 60 (.tmp 2) 1, _, _, _, none⟩) (v := ?_) rfl (by kernel_rfl) (by kernel_rfl) (by kernel_rfl) (fun _ _ _ h => h) (Or.inl ⟨by rfl, ?_⟩) (by assumption) ?_
  rotate_left
  · intro w hSw
    try dsimp only at hSw
    go_simp
    try with_reducible rfl
  try simp only [Act.put, List.setIfInBounds_toArray, List.set_cons_zero, List.set_cons_succ]
  refine wpAnyH_take (i := 7) (oi := ⟨some 15, .load 3 (.tmp 14), _, _, _, none⟩) (v := ?_) rfl (by kernel_rfl) (by kernel_rfl) (by kernel_rfl) (fun _ _ _ h => h) (Or.inl ⟨by rfl, ?_⟩) (by assumption) ?_
  rotate_left
  · intro w hSw
    try dsimp only at hSw
    go_simp
    try with_reducible rfl
  try simp only [Act.put, List.setIfInBounds_toArray, List.set_cons_zero, List.set_cons_succ]
  refine wpAnyH_take (i := 8) (oi := ⟨some 16, .binOp .sub 3 (.tmp 15) (.const (.int .i64 1)) 3, _, _, _, none⟩) (v := ?_) rfl (by kernel_rfl) (by kernel_rfl) (by kernel_rfl) (fun _ _ _ h => h) (Or.inl ⟨by rfl, ?_⟩) (by assumption) ?_
  rotate_left
  · intro w hSw
    try dsimp only at hSw
    go_simp
    try with_reducible rfl
  try simp only [Act.put, List.setIfInBounds_toArray, List.set_cons_zero, List.set_cons_succ]
  refine wpAnyH_ready (rs := [0]) (by kernel_rfl) (by simp) ?_
  refine AllReadyH.cons (o := ⟨some 8, _, _, _, _, none⟩) rfl (fun K hK => ?_) AllReadyH.nil
  go_simp
  (go_at_call 93; refine (rdays6_any _).mono ?_; rintro e wn ⟨rfl, hb, hk⟩)
  replace hk := (show wn.heap[w.heap.size + 1]? = some (.cells wdC 9 (0, 0)) by simpa using hk)
  have HW1 := Kp.mk hk
  have dk := blk_cell (i := k) hk HWC.out
  replace HD := Kp.mk (HD.out.below hb)
  clear hb hk
  try go_wp2_with fail
  refine hK.out _ _ (⟨blk_cell (i := 0) HD.out.box rfl, blk_cell (i := 1) HD.out.box rfl, blk_cell (i := 2) HD.out.box rfl, blk_cell (i := 3) HD.out.box rfl, blk_cell (i := 4) HD.out.box rfl, blk_cell (i := 5) HD.out.box rfl⟩) (fun hHeld2 => ?_)
  clear hK K
  try simp only [Act.put, List.setIfInBounds_toArray, List.set_cons_zero, List.set_cons_succ]
  refine wpAnyH_more (S2 := fun w' => (w'.cell? ⟨w.heap.size, 0, none⟩ = some (.int .i64 y) ∧ w'.cell? ⟨w.heap.size, 1, none⟩ = some (.int .i64 m) ∧ w'.cell? ⟨w.heap.size, 2, none⟩ = some (.int .i64 d) ∧ w'.cell? ⟨w.heap.size, 3, none⟩ = some (.int .i64 H) ∧ w'.cell? ⟨w.heap.size, 4, none⟩ = some (.int .i64 M) ∧ w'.cell? ⟨w.heap.size, 5, none⟩ = some (.int .i64 S)) ∧ w'.cell? ⟨w.heap.size + 1, k, none⟩ = some (.string (wdS k))) (fun w h => h.1) _ _ _ _ ?_
  have hHeld7 := And.intro hHeld2 dk
  clear hHeld2
  refine wpAnyH_ready (rs := [2]) (by kernel_rfl) (by simp) ?_
  refine AllReadyH.cons (o := ⟨some 10, _, _, _, _, none⟩) rfl (fun K hK => ?_) AllReadyH.nil
  go_simp
  (go_at_call 85; refine (HDAY.out _).mono ?_; rintro e wn2 ⟨rfl, hb⟩)
  replace HW1 := Kp.mk ((hb.block _ (blk_lt HW1.out)).trans HW1.out)
  clear dk
  have dk := blk_cell (i := k) HW1.out HWC.out
  replace HD := Kp.mk (HD.out.below hb)
  clear hb
  try go_wp2_with fail
  refine hK.out _ _ (⟨⟨blk_cell (i := 0) HD.out.box rfl, blk_cell (i := 1) HD.out.box rfl, blk_cell (i := 2) HD.out.box rfl, blk_cell (i := 3) HD.out.box rfl, blk_cell (i := 4) HD.out.box rfl, blk_cell (i := 5) HD.out.box rfl⟩, dk⟩) (fun hHeld2 => ?_)
  clear hK K
  try simp only [Act.put, List.setIfInBounds_toArray, List.set_cons_zero, List.set_cons_succ]
  refine wpAnyH_take (i := 3) (oi := ⟨some 11, .indexAddr 100 (.tmp 8) (.tmp 10), _, _, _, none⟩) (v := ?_) rfl (by kernel_rfl) (by kernel_rfl) (by kernel_rfl) (fun _ _ _ h => h) (Or.inl ⟨by rfl, ?_⟩) (by assumption) ?_
  rotate_left
  · intro w hSw
    try dsimp only at hSw
    go_simp
    try with_reducible rfl
  try simp only [Act.put, List.setIfInBounds_toArray, List.set_cons_zero, List.set_cons_succ]
  refine wpAnyH_take (i := 4) (oi := ⟨some 12, .load 9 (.tmp 11), _, _, _, none⟩) (v := ?_) rfl (by kernel_rfl) (by kernel_rfl) (by kernel_rfl) (fun _ _ _ h => h) (Or.inl ⟨by rfl, ?_⟩) (by assumption) ?_
  rotate_left
  · intro w hSw
    try dsimp only at hSw
    go_simp
    try with_reducible rfl
  try simp only [Act.put, List.setIfInBounds_toArray, List.set_cons_zero, List.set_cons_succ]
  refine wpAnyH_ready (rs := [5]) (by kernel_rfl) (by simp) ?_
  refine AllReadyH.cons (o := ⟨some 13, _, _, _, _, none⟩) rfl (fun K hK => ?_) AllReadyH.nil
  go_simp
  (go_at_call 94; refine (rmonths6_any _).mono ?_; rintro e wn3 ⟨rfl, hb, hk⟩)
  replace HW1 := Kp.mk ((hb.block _ (blk_lt HW1.out)).trans HW1.out)
  clear dk
  have dk := blk_cell (i := k) HW1.out HWC.out
  have dm := blk_cell (i := mn) hk HMC.out
  replace HD := Kp.mk (HD.out.below hb)
  clear hb hk
  generalize wn2.heap.size = wm at *
  try go_wp2_with fail
  refine hK.out _ _ (⟨⟨blk_cell (i := 0) HD.out.box rfl, blk_cell (i := 1) HD.out.box rfl, blk_cell (i := 2) HD.out.box rfl, blk_cell (i := 3) HD.out.box rfl, blk_cell (i := 4) HD.out.box rfl, blk_cell (i := 5) HD.out.box rfl⟩, dk⟩) (fun hHeld2 => ?_)
  clear hK K
  try simp only [Act.put, List.setIfInBounds_toArray, List.set_cons_zero, List.set_cons_succ]
  refine wpAnyH_more (S2 := fun w' => ((w'.cell? ⟨w.heap.size, 0, none⟩ = some (.int .i64 y) ∧ w'.cell? ⟨w.heap.size, 1, none⟩ = some (.int .i64 m) ∧ w'.cell? ⟨w.heap.size, 2, none⟩ = some (.int .i64 d) ∧ w'.cell? ⟨w.heap.size, 3, none⟩ = some (.int .i64 H) ∧ w'.cell? ⟨w.heap.size, 4, none⟩ = some (.int .i64 M) ∧ w'.cell? ⟨w.heap.size, 5, none⟩ = some (.int .i64 S)) ∧ w'.cell? ⟨w.heap.size + 1, k, none⟩ = some (.string (wdS k))) ∧ w'.cell? ⟨wm, mn, none⟩ = some (.string (moS mn))) (fun w h => h.1) _ _ _ _ ?_
  have hHeld8 := And.intro hHeld2 dm
  clear hHeld2
  refine wpAnyH_take (i := 9) (oi := ⟨some 17, .indexAddr 100 (.tmp 13) (.tmp 16), _, _, _, none⟩) (v := ?_) rfl (by kernel_rfl) (by kernel_rfl) (by kernel_rfl) (fun _ _ _ h => h) (Or.inl ⟨by rfl, ?_⟩) (by assumption) ?_
  rotate_left
  · intro w hSw
    try dsimp only at hSw
    go_simp
    try with_reducible rfl
  try simp only [Act.put, List.setIfInBounds_toArray, List.set_cons_zero, List.set_cons_succ]
  refine wpAnyH_take (i := 10) (oi := ⟨some 18, .load 9 (.tmp 17), _, _, _, none⟩) (v := ?_) rfl (by kernel_rfl) (by kernel_rfl) (by kernel_rfl) (fun _ _ _ h => h) (Or.inl ⟨by rfl, ?_⟩) (by assumption) ?_
  rotate_left
  · intro w hSw
    try dsimp only at hSw
    go_simp
    try with_reducible rfl
  try simp only [Act.put, List.setIfInBounds_toArray, List.set_cons_zero, List.set_cons_succ]
  refine wpAnyH_take (i := 11) (oi := ⟨some 5, .assign (.tmp 12), _, _, _, none⟩) (v := ?_) rfl (by kernel_rfl) (by kernel_rfl) (by kernel_rfl) (fun _ _ _ h => h) (Or.inl ⟨by rfl, ?_⟩) (by assumption) ?_
  rotate_left
  · intro w hSw
    try dsimp only at hSw
    go_simp
    try with_reducible rfl
  try simp only [Act.put, List.setIfInBounds_toArray, List.set_cons_zero, List.set_cons_succ]
  refine wpAnyH_take (i := 12) (oi := ⟨some 6, .assign (.tmp 18), _, _, _, none⟩) (v := ?_) rfl (by kernel_rfl) (by kernel_rfl) (by kernel_rfl) (fun _ _ _ h => h) (Or.inl ⟨by rfl, ?_⟩) (by assumption) ?_
  rotate_left
  · intro w hSw
    try dsimp only at hSw
    go_simp
    try with_reducible rfl
  try simp only [Act.put, List.setIfInBounds_toArray, List.set_cons_zero, List.set_cons_succ]
  refine wpAnyH_done (by kernel_rfl) ?_ _
  have l0 : ((wdS k).extract 0 3).size = 3 := by rw [H3.out]; exact l1
  have p0 := fun p : InS (DBx #[.int .i64 y, .int .i64 m, .int .i64 d, .int .i64 H, .int .i64 M, .int .i64 S] w) => blk_cell (i := 0) p.ok.box rfl
  have p1 := fun p : InS (DBx #[.int .i64 y, .int .i64 m, .int .i64 d, .int .i64 H, .int .i64 M, .int .i64 S] w) => blk_cell (i := 1) p.ok.box rfl
  have p2 := fun p : InS (DBx #[.int .i64 y, .int .i64 m, .int .i64 d, .int .i64 H, .int .i64 M, .int .i64 S] w) => blk_cell (i := 2) p.ok.box rfl
  have p3 := fun p : InS (DBx #[.int .i64 y, .int .i64 m, .int .i64 d, .int .i64 H, .int .i64 M, .int .i64 S] w) => blk_cell (i := 3) p.ok.box rfl
  have p4 := fun p : InS (DBx #[.int .i64 y, .int .i64 m, .int .i64 d, .int .i64 H, .int .i64 M, .int .i64 S] w) => blk_cell (i := 4) p.ok.box rfl
  have p5 := fun p : InS (DBx #[.int .i64 y, .int .i64 m, .int .i64 d, .int .i64 H, .int .i64 M, .int .i64 S] w) => blk_cell (i := 5) p.ok.box rfl
  haveI hne : Nonempty (InS (DBx #[.int .i64 y, .int .i64 m, .int .i64 d, .int .i64 H, .int .i64 M, .int .i64 S] w)) := ⟨⟨_, HD.out⟩⟩
  have HD2 := Kp.mk (show DBx #[.int .i64 y, .int .i64 m, .int .i64 d, .int .i64 H, .int .i64 M, .int .i64 S] w wn3.drew from HD.out.below (gdrewN _ 1))
  obtain ⟨⟨b1, b2⟩, ⟨b3, b4⟩, -⟩ := HBD.out
  have x2 := blk_cell (i := 2) HD.out.box rfl
  by_cases h10 : d < 10
  · go_wp2_with fail
    refine (rpad1_any d _ (by omega) (by omega)).mono ?_
    rintro e wp ⟨rfl, hbp⟩
    replace HD := Kp.mk (HD.out.below hbp)
    clear hbp
    have z2 := blk_cell (i := 2) HD.out.box rfl
    have HD2 := Kp.mk (show DBx #[.int .i64 y, .int .i64 m, .int .i64 d, .int .i64 H, .int .i64 M, .int .i64 S] w wp.drew from HD.out.below (gdrewN _ 1))
    go_upto_region 9 with fail
    refine region_in _ (by kernel_rfl) (by kernel_rfl) HD2.out ?_
    iterate 10 (go_big_quiet_step (fail))
    go_big_quiet_step ((go_at_call 96; exact call_in fun w h => (HCLK.out w).mono fun _ _ h2 => ⟨h2.1, h.below h2.2⟩))
    iterate 4 (go_big_quiet_step (fail))
    go_big_quiet_step ((go_at_call 95; exact call_in fun w h => (rpad4_any _ w (by omega) (by omega)).mono fun _ _ h2 => ⟨h2.1, h.below h2.2⟩))
    iterate 2 (go_big_quiet_step (fail))
    refine wpQuiet_nil ?_
    intro _ hw'
    obtain ⟨wq, rfl⟩ := hw'
    go_wp2_with fail
    go_ret
    exact ⟨by rw [HTX.out, show dayT d = ⟨#[32]⟩ ++ ofL (padL d 1) from if_pos (by omega), ← H3.out]; rfl, wq.ok.bel⟩
  · go_wp2_with fail
    refine (rpad1_any d _ (by omega) (by omega)).mono ?_
    rintro e wp ⟨rfl, hbp⟩
    replace HD := Kp.mk (HD.out.below hbp)
    clear hbp
    have z2 := blk_cell (i := 2) HD.out.box rfl
    have HD2 := Kp.mk (show DBx #[.int .i64 y, .int .i64 m, .int .i64 d, .int .i64 H, .int .i64 M, .int .i64 S] w wp.drew from HD.out.below (gdrewN _ 1))
    go_upto_region 9 with fail
    refine region_in _ (by kernel_rfl) (by kernel_rfl) HD2.out ?_
    iterate 10 (go_big_quiet_step (fail))
    go_big_quiet_step ((go_at_call 96; exact call_in fun w h => (HCLK.out w).mono fun _ _ h2 => ⟨h2.1, h.below h2.2⟩))
    iterate 4 (go_big_quiet_step (fail))
    go_big_quiet_step ((go_at_call 95; exact call_in fun w h => (rpad4_any _ w (by omega) (by omega)).mono fun _ _ h2 => ⟨h2.1, h.below h2.2⟩))
    iterate 2 (go_big_quiet_step (fail))
    refine wpQuiet_nil ?_
    intro _ hw'
    obtain ⟨wq, rfl⟩ := hw'
    go_wp2_with fail
    go_ret
    exact ⟨by rw [HTX.out, show dayT d = ofL (padL d 1) from if_neg (by omega), ← H3.out]; rfl, wq.ok.bel⟩
end Go.Proofs.Ytgogoncpnfojkaa
