/- Dates of fields (layer 6): what the document writes. -/
import Derived.Test.YtgamekfickheaaaGreatDtc
import Derived.Test.YtgamekfickheaaaGreatQs
import Derived.Deep.RegionHeld3
namespace Go.Proofs.YtgamekfickheaaaGreat
open Go.RowKit
set_option linter.unusedVariables false
set_option linter.unusedSimpArgs false

/-- A region's class of worlds may be made smaller on the way. -/
theorem wpAnyH_more {P : Program} {md : Region.Mode} {ops : Array Oper} {Q : Exit → Act → World → Prop} {S S2 : World → Prop} (hS : ∀ w, S2 w → S w) :
    ∀ (fuel : Nat) (listed : Array Bool) (a : Act) (w : World), wpAnyH P md ops Q S2 fuel listed a w → wpAnyH P md ops Q S fuel listed a w
  | 0, _, _, _, h => h
  | fuel + 1, _, _, _, h => ⟨h.1, fun i hi => wpOp_mono (fun _ _ h' => ⟨hS _ h'.1, wpAnyH_more hS fuel _ _ _ h'.2⟩) (h.2 i hi)⟩
def wdC : Array Value := #[.string (wdS 0), .string (wdS 1), .string (wdS 2), .string (wdS 3), .string (wdS 4), .string (wdS 5), .string (wdS 6)]
def moC : Array Value := #[.string (moS 0), .string (moS 1), .string (moS 2), .string (moS 3), .string (moS 4), .string (moS 5), .string (moS 6), .string (moS 7), .string (moS 8), .string (moS 9), .string (moS 10), .string (moS 11)]
theorem wdC_at (k : Nat) (hk : k < 7) : wdC[k]? = some (.string (wdS k)) := by
  rcases (by omega : k = 0 ∨ k = 1 ∨ k = 2 ∨ k = 3 ∨ k = 4 ∨ k = 5 ∨ k = 6) with rfl | rfl | rfl | rfl | rfl | rfl | rfl <;> rfl
theorem moC_at (k : Nat) (hk : k < 12) : moC[k]? = some (.string (moS k)) := by
  rcases (by omega : k = 0 ∨ k = 1 ∨ k = 2 ∨ k = 3 ∨ k = 4 ∨ k = 5 ∨ k = 6 ∨ k = 7 ∨ k = 8 ∨ k = 9 ∨ k = 10 ∨ k = 11) with rfl | rfl | rfl | rfl | rfl | rfl | rfl | rfl | rfl | rfl | rfl | rfl <;> rfl
def RetRow (n : Nat) (cs : Array Value) (w : World) (e : Ending) (w' : World) : Prop :=
  e = .returned (.slice (some ⟨w.heap.size, 0, none⟩) n n) ∧ Below w.heap.size w w' ∧ w'.heap[w.heap.size]? = some (.cells cs 9 (0, 0))
set_option maxRecDepth 100000 in
set_option maxHeartbeats 1000000 in
theorem rdays6_any (w : World) : Calls Tryz.prog 106 #[] w (RetRow 7 wdC w) := by
  go_enter Tryz.func106, Tryz.ntmps106
  go_wp2_with fail
  go_ret
  exact ⟨rfl, (Below.refl _ _).alloc (Nat.le_refl _) _, heap_alloc_new w (.cells wdC 9)⟩
set_option maxRecDepth 100000 in
set_option maxHeartbeats 1000000 in
theorem rmonths6_any (w : World) : Calls Tryz.prog 107 #[] w (RetRow 12 moC w) := by
  go_enter Tryz.func107, Tryz.ntmps107
  go_wp2_with fail
  go_ret
  exact ⟨rfl, (Below.refl _ _).alloc (Nat.le_refl _) _, heap_alloc_new w (.cells moC 9)⟩
/-- The cells of a date. -/
noncomputable def dtC (n : Int) : Array Value := #[.int .i64 (dyY n), .int .i64 (dyM n), .int .i64 (dyD n), .int .i64 (dH n), .int .i64 (dM n), .int .i64 (dS n)]
theorem days_back (n : Int) (h : placeB (n / 86400) = true) : daysI (dyY n) (dyM n) (dyD n) = n / 86400 := by
  have hp : -719162 ≤ n / 86400 ∧ n / 86400 ≤ 2932896 := by simpa [placeB] using h
  obtain ⟨hd, he⟩ := dayOf_spec hp.1 hp.2
  unfold daysI
  rw [if_pos ((dayB_iff _ _ _).2 hd)]
  exact he
set_option maxRecDepth 100000 in
set_option maxHeartbeats 1000000 in
theorem rday6_any (n : Int) (h : placeB (n / 86400) = true) (w : World) :
    Calls Tryz.prog 104 #[.agg #[.int .i64 (dyY n), .int .i64 (dyM n), .int .i64 (dyD n), .int .i64 (dH n), .int .i64 (dM n), .int .i64 (dS n)]] w fun e w' => e = .returned (.int .i64 (wkN n)) ∧ Below w.heap.size w w' := by
  have HB := Kp.mk (days_back n h)
  have HW := Kp.mk (wkN_eq n)
  go_enter Tryz.func104, Tryz.ntmps104
  go_wp2_with fail
  refine (ref_days_any _ _ _ _).mono ?_
  rintro e w1 ⟨rfl, rfl⟩
  rw [HB.out]
  go_wp2_with fail
  refine (ref_weekday_any _ _).mono ?_
  rintro e w1 ⟨rfl, rfl⟩
  rw [HW.out]
  go_wp2_with fail
  go_ret
  exact ⟨rfl, (Below.refl _ _).alloc (Nat.le_refl _) _⟩
theorem rpad1_any (n : Int) (w : World) (h0 : -9223372036854775808 ≤ n) (h1 : n ≤ 9223372036854775807) :
    Calls Tryz.prog 108 #[.int .i64 n, .int .i64 1] w fun e w' => e = .returned (.string (ofL (padL n 1))) ∧ Below w.heap.size w w' := rpadW_any n 1 w (by omega) (by omega) h0 h1
theorem rpad2_any (n : Int) (w : World) (h0 : -9223372036854775808 ≤ n) (h1 : n ≤ 9223372036854775807) :
    Calls Tryz.prog 108 #[.int .i64 n, .int .i64 2] w fun e w' => e = .returned (.string (ofL (padL n 2))) ∧ Below w.heap.size w w' := rpadW_any n 2 w (by omega) (by omega) h0 h1
theorem rpad4_any (n : Int) (w : World) (h0 : -9223372036854775808 ≤ n) (h1 : n ≤ 9223372036854775807) :
    Calls Tryz.prog 108 #[.int .i64 n, .int .i64 4] w fun e w' => e = .returned (.string (ofL (padL n 4))) ∧ Below w.heap.size w w' := rpadW_any n 4 w (by omega) (by omega) h0 h1
/-- A box with a date. -/
structure DBx (cs : Array Value) (w W : World) : Prop where
  box : W.heap[w.heap.size]? = some (.cells cs 66 (0, 0))
  bel : Below w.heap.size w W
theorem DBx.below {cs : Array Value} {w W W' : World} (h : DBx cs w W) (hb : Below W.heap.size W W') : DBx cs w W' := ⟨(hb.block _ (blk_lt h.box)).trans h.box, h.bel.trans (hb.mono h.bel.size)⟩
theorem DBx.new (cs : Array Value) (w : World) : DBx cs w (w.alloc (.cells cs 66)) := ⟨heap_alloc_new w _, (Below.refl _ _).alloc (Nat.le_refl _) _⟩
def clkL (H M S : Int) : List UInt8 := padL H 2 ++ [58] ++ padL M 2 ++ [58] ++ padL S 2
set_option maxRecDepth 100000 in
set_option maxHeartbeats 2000000 in
theorem rclock_any (y m d H M S : Int) (w : World) (hb : (-1000 ≤ d ∧ d ≤ 100000) ∧ (-1000 ≤ y ∧ y ≤ 100000) ∧ (-1000 ≤ H ∧ H ≤ 100000) ∧ (-1000 ≤ M ∧ M ≤ 100000) ∧ (-1000 ≤ S ∧ S ≤ 100000)) :
    Calls Tryz.prog 109 #[.agg #[.int .i64 y, .int .i64 m, .int .i64 d, .int .i64 H, .int .i64 M, .int .i64 S]] w fun e w' => e = .returned (.string (ofL (clkL H M S))) ∧ Below w.heap.size w w' := by
  have HX := Kp.mk (DBx.new #[.int .i64 y, .int .i64 m, .int .i64 d, .int .i64 H, .int .i64 M, .int .i64 S] w)
  have HD := Kp.mk (HX.out.below (gdrewN _ 1))
  have p3 := fun p : InS (DBx #[.int .i64 y, .int .i64 m, .int .i64 d, .int .i64 H, .int .i64 M, .int .i64 S] w) => blk_cell (i := 3) p.ok.box rfl
  have p4 := fun p : InS (DBx #[.int .i64 y, .int .i64 m, .int .i64 d, .int .i64 H, .int .i64 M, .int .i64 S] w) => blk_cell (i := 4) p.ok.box rfl
  have p5 := fun p : InS (DBx #[.int .i64 y, .int .i64 m, .int .i64 d, .int .i64 H, .int .i64 M, .int .i64 S] w) => blk_cell (i := 5) p.ok.box rfl
  haveI hne : Nonempty (InS (DBx #[.int .i64 y, .int .i64 m, .int .i64 d, .int .i64 H, .int .i64 M, .int .i64 S] w)) := ⟨⟨_, HX.out⟩⟩
  have HR := Kp.mk (show ofL (padL H 2) ++ ⟨#[58]⟩ ++ ofL (padL M 2) ++ ⟨#[58]⟩ ++ ofL (padL S 2) = ofL (clkL H M S) from by
    refine ba_ext ?_
    simp [ofL, clkL, ByteArray.data_append])
  have l1 : (ofL (padL H 2)).size ≤ 21 := by rw [ofL_size]; exact padL_len _ _
  have l2 : (ofL (padL M 2)).size ≤ 21 := by rw [ofL_size]; exact padL_len _ _
  have l3 : (ofL (padL S 2)).size ≤ 21 := by rw [ofL_size]; exact padL_len _ _
  generalize ofL (clkL H M S) = R at *
  go_enter Tryz.func109, Tryz.ntmps109
  go_wp2_with fail
  refine region_in _ (by kernel_rfl) (by kernel_rfl) HD.out ?_
  repeat (go_big_quiet_step (first
    | (go_at_call 108; exact call_in fun w h => (rpad2_any _ w (by omega) (by omega)).mono fun _ _ h2 => ⟨h2.1, h.below h2.2⟩)))
  refine wpQuiet_nil ?_
  intro _ hw'
  obtain ⟨wq, rfl⟩ := hw'
  go_wp2_with fail
  go_ret
  exact ⟨by rw [← HR.out]; rfl, wq.ok.bel⟩
/-- What stands in the first form. -/
def fixT (k mn : Nat) (y d H M S : Int) : ByteArray := ofL (wd3 k) ++ ⟨#[44, 32]⟩ ++ ofL (padL d 2) ++ ⟨#[32]⟩ ++ moS mn ++ ⟨#[32]⟩ ++ ofL (padL y 4) ++ ⟨#[32]⟩ ++ ofL (clkL H M S) ++ ⟨#[32, 71, 77, 84]⟩
theorem fix_text (n : Int) (mn : Nat) (hmn : dyM n - 1 = (mn : Int)) : fixT (wkN n) mn (dyY n) (dyD n) (dH n) (dM n) (dS n) = ofL (pcAcc n 18) := by
  refine ba_ext ?_
  have hm : (dyM n - 1).toNat = mn := by rw [hmn]; rfl
  simp [fixT, ofL, clkL, pcAcc, pcL, ByteArray.data_append, hm]
set_option maxRecDepth 100000 in
set_option maxHeartbeats 4000000 in
theorem rwrite1_of (y m d H M S : Int) (k mn : Nat) (hkl : k < 7) (hmn : m - 1 = (mn : Int)) (hml : mn < 12) (hb : (-1000 ≤ d ∧ d ≤ 100000) ∧ (-1000 ≤ y ∧ y ≤ 100000) ∧ (-1000 ≤ H ∧ H ≤ 100000) ∧ (-1000 ≤ M ∧ M ≤ 100000) ∧ (-1000 ≤ S ∧ S ≤ 100000)) (hday : ∀ w, Calls Tryz.prog 104 #[.agg #[.int .i64 y, .int .i64 m, .int .i64 d, .int .i64 H, .int .i64 M, .int .i64 S]] w fun e w' => e = .returned (.int .i64 k) ∧ Below w.heap.size w w') (w : World) :
    Calls Tryz.prog 84 #[.agg #[.int .i64 y, .int .i64 m, .int .i64 d, .int .i64 H, .int .i64 M, .int .i64 S], .int .i64 1] w fun e w' => e = .returned (.string (fixT k mn y d H M S)) ∧ Below w.heap.size w w' := by
  have HX := Kp.mk (DBx.new #[.int .i64 y, .int .i64 m, .int .i64 d, .int .i64 H, .int .i64 M, .int .i64 S] w)
  have HDAY := Kp.mk hday
  have HCLK := Kp.mk (fun w => rclock_any y m d H M S w hb)
  have HTX := Kp.mk (show fixT k mn y d H M S = ofL (wd3 k) ++ ⟨#[44, 32]⟩ ++ ofL (padL d 2) ++ ⟨#[32]⟩ ++ moS mn ++ ⟨#[32]⟩ ++ ofL (padL y 4) ++ ⟨#[32]⟩ ++ ofL (clkL H M S) ++ ⟨#[32, 71, 77, 84]⟩ from rfl)
  have H3 := Kp.mk (wd3_ext k)
  have hz3 : (3 : Int) ≤ ((wdS k).size : Int) := by have := wdS_size _ hkl; omega
  have HMC := Kp.mk (moC_at mn hml)
  have HWC := Kp.mk (wdC_at k hkl)
  have hwm : IntKind.i64.wrap (mn : Int) = (mn : Int) := by first | exact wrap_small _ (by omega) (by omega) | (simp [IntKind.wrap, IntKind.signed, IntKind.bits, wrap64]; omega)
  have hk7 : ((k : Nat) : Int) < 7 := by omega
  have hm12 : (mn : Int) < 12 := by omega
  have C2 := Kp.mk (fun w => rpad2_any d w (by omega) (by omega))
  have C4 := Kp.mk (fun w => rpad4_any y w (by omega) (by omega))
  have l1 : (ofL (wd3 k)).size = 3 := by rw [ofL_size]; exact wd3_len _ hkl
  have l2 : (ofL (padL d 2)).size ≤ 21 := by rw [ofL_size]; exact padL_len _ _
  have l3 : (ofL (padL y 4)).size ≤ 21 := by rw [ofL_size]; exact padL_len _ _
  have l4 : (ofL (clkL H M S)).size ≤ 100 := by
    rw [ofL_size]
    have a := padL_len H 2
    have b := padL_len M 2
    have c := padL_len S 2
    simp only [clkL, List.length_append, List.length_cons, List.length_nil]
    omega
  have l5 := moS_le mn
  have HD := Kp.mk (show DBx #[.int .i64 y, .int .i64 m, .int .i64 d, .int .i64 H, .int .i64 M, .int .i64 S] w ((w.alloc (.cells #[.int .i64 y, .int .i64 m, .int .i64 d, .int .i64 H, .int .i64 M, .int .i64 S] 66)).drew) from HX.out.below (gdrewN _ 1))
  have c0 := blk_cell (i := 0) HX.out.box rfl
  have c1 := blk_cell (i := 1) HX.out.box rfl
  have c2 := blk_cell (i := 2) HX.out.box rfl
  have c3 := blk_cell (i := 3) HX.out.box rfl
  have c4 := blk_cell (i := 4) HX.out.box rfl
  have c5 := blk_cell (i := 5) HX.out.box rfl
  generalize hfx : fixT k mn y d H M S = FX at *
  have HBD := Kp.mk hb
  clear hb hday hfx
  go_enter Tryz.func84, Tryz.ntmps84
  go_upto_region 1 with fail
  refine wp_region_held_drew (S := fun w' => w'.cell? ⟨w.heap.size, 0, none⟩ = some (.int .i64 y) ∧ w'.cell? ⟨w.heap.size, 1, none⟩ = some (.int .i64 m) ∧ w'.cell? ⟨w.heap.size, 2, none⟩ = some (.int .i64 d) ∧ w'.cell? ⟨w.heap.size, 3, none⟩ = some (.int .i64 H) ∧ w'.cell? ⟨w.heap.size, 4, none⟩ = some (.int .i64 M) ∧ w'.cell? ⟨w.heap.size, 5, none⟩ = some (.int .i64 S)) (by kernel_rfl) (⟨blk_cell (i := 0) HD.out.box rfl, blk_cell (i := 1) HD.out.box rfl, blk_cell (i := 2) HD.out.box rfl, blk_cell (i := 3) HD.out.box rfl, blk_cell (i := 4) HD.out.box rfl, blk_cell (i := 5) HD.out.box rfl⟩) (fun hHeld => ?_)
  refine wpAnyH_take (i := 1) (oi := ⟨some 9, .load 66 (.tmp 2), _, _, _, none⟩) (v := ?_) rfl (by kernel_rfl) (by kernel_rfl) (by kernel_rfl) (fun _ _ _ h => h) (Or.inl ⟨by rfl, ?_⟩) (by assumption) ?_
  rotate_left
  · intro w hSw
    try dsimp only at hSw
    go_simp
    try with_reducible rfl
  try simp only [Act.put, List.setIfInBounds_toArray, List.set_cons_zero, List.set_cons_succ]
  refine wpAnyH_take (i := 6) (oi := ⟨some 14, .fieldAddr 66 (.tmp 2) 1, _, _, _, none⟩) (v := ?_) rfl (by kernel_rfl) (by kernel_rfl) (by kernel_rfl) (fun _ _ _ h => h) (Or.inl ⟨by rfl, ?_⟩) (by assumption) ?_
  rotate_left
  · intro w hSw
    try dsimp only at hSw
    go_simp
    try with_reducible rfl
  try simp only [Act.put, List.setIfInBounds_toArray, List.set_cons_zero, List.set_cons_succ]
  refine wpAnyH_take (i := 7) (oi := ⟨some 15, .load 3 (.tmp 14), _, _, _, none⟩) (v := ?_) rfl (by kernel_rfl) (by kernel_rfl) (by kernel_rfl) (fun _ _ _ h => h) (Or.inl ⟨by rfl, ?_⟩) (by assumption) ?_
  rotate_left
  · intro w hSw
    try dsimp only at hSw
    go_simp
    try with_reducible rfl
  try simp only [Act.put, List.setIfInBounds_toArray, List.set_cons_zero, List.set_cons_succ]
  refine wpAnyH_take (i := 8) (oi := ⟨some 16, .binOp .sub 3 (.tmp 15) (.const (.int .i64 1)) 3, _, _, _, none⟩) (v := ?_) rfl (by kernel_rfl) (by kernel_rfl) (by kernel_rfl) (fun _ _ _ h => h) (Or.inl ⟨by rfl, ?_⟩) (by assumption) ?_
  rotate_left
  · intro w hSw
    try dsimp only at hSw
    go_simp
    try with_reducible rfl
  try simp only [Act.put, List.setIfInBounds_toArray, List.set_cons_zero, List.set_cons_succ]
  refine wpAnyH_ready (rs := [0]) (by kernel_rfl) (by simp) ?_
  refine AllReadyH.cons (o := ⟨some 8, _, _, _, _, none⟩) rfl (fun K hK => ?_) AllReadyH.nil
  go_simp
  (go_at_call 106; refine (rdays6_any _).mono ?_; rintro e wn ⟨rfl, hb, hk⟩)
  replace hk := (show wn.heap[w.heap.size + 1]? = some (.cells wdC 9 (0, 0)) by simpa using hk)
  have HW1 := Kp.mk hk
  have dk := blk_cell (i := k) hk HWC.out
  replace HD := Kp.mk (HD.out.below hb)
  clear hb hk
  try go_wp2_with fail
  refine hK.out _ _ (⟨blk_cell (i := 0) HD.out.box rfl, blk_cell (i := 1) HD.out.box rfl, blk_cell (i := 2) HD.out.box rfl, blk_cell (i := 3) HD.out.box rfl, blk_cell (i := 4) HD.out.box rfl, blk_cell (i := 5) HD.out.box rfl⟩) (fun hHeld2 => ?_)
  clear hK K
  try simp only [Act.put, List.setIfInBounds_toArray, List.set_cons_zero, List.set_cons_succ]
  refine wpAnyH_more (S2 := fun w' => (w'.cell? ⟨w.heap.size, 0, none⟩ = some (.int .i64 y) ∧ w'.cell? ⟨w.heap.size, 1, none⟩ = some (.int .i64 m) ∧ w'.cell? ⟨w.heap.size, 2, none⟩ = some (.int .i64 d) ∧ w'.cell? ⟨w.heap.size, 3, none⟩ = some (.int .i64 H) ∧ w'.cell? ⟨w.heap.size, 4, none⟩ = some (.int .i64 M) ∧ w'.cell? ⟨w.heap.size, 5, none⟩ = some (.int .i64 S)) ∧ w'.cell? ⟨w.heap.size + 1, k, none⟩ = some (.string (wdS k))) (fun w h => h.1) _ _ _ _ ?_
  have hHeld7 := And.intro hHeld2 dk
  clear hHeld2
  refine wpAnyH_ready (rs := [2]) (by kernel_rfl) (by simp) ?_
  refine AllReadyH.cons (o := ⟨some 10, _, _, _, _, none⟩) rfl (fun K hK => ?_) AllReadyH.nil
  go_simp
  (go_at_call 104; refine (HDAY.out _).mono ?_; rintro e wn2 ⟨rfl, hb⟩)
  replace HW1 := Kp.mk ((hb.block _ (blk_lt HW1.out)).trans HW1.out)
  clear dk
  have dk := blk_cell (i := k) HW1.out HWC.out
  replace HD := Kp.mk (HD.out.below hb)
  clear hb
  try go_wp2_with fail
  refine hK.out _ _ (⟨⟨blk_cell (i := 0) HD.out.box rfl, blk_cell (i := 1) HD.out.box rfl, blk_cell (i := 2) HD.out.box rfl, blk_cell (i := 3) HD.out.box rfl, blk_cell (i := 4) HD.out.box rfl, blk_cell (i := 5) HD.out.box rfl⟩, dk⟩) (fun hHeld2 => ?_)
  clear hK K
  try simp only [Act.put, List.setIfInBounds_toArray, List.set_cons_zero, List.set_cons_succ]
  refine wpAnyH_take (i := 3) (oi := ⟨some 11, .indexAddr 54 (.tmp 8) (.tmp 10), _, _, _, none⟩) (v := ?_) rfl (by kernel_rfl) (by kernel_rfl) (by kernel_rfl) (fun _ _ _ h => h) (Or.inl ⟨by rfl, ?_⟩) (by assumption) ?_
  rotate_left
  · intro w hSw
    try dsimp only at hSw
    go_simp
    try with_reducible rfl
  try simp only [Act.put, List.setIfInBounds_toArray, List.set_cons_zero, List.set_cons_succ]
  refine wpAnyH_take (i := 4) (oi := ⟨some 12, .load 9 (.tmp 11), _, _, _, none⟩) (v := ?_) rfl (by kernel_rfl) (by kernel_rfl) (by kernel_rfl) (fun _ _ _ h => h) (Or.inl ⟨by rfl, ?_⟩) (by assumption) ?_
  rotate_left
  · intro w hSw
    try dsimp only at hSw
    go_simp
    try with_reducible rfl
  try simp only [Act.put, List.setIfInBounds_toArray, List.set_cons_zero, List.set_cons_succ]
  refine wpAnyH_ready (rs := [5]) (by kernel_rfl) (by simp) ?_
  refine AllReadyH.cons (o := ⟨some 13, _, _, _, _, none⟩) rfl (fun K hK => ?_) AllReadyH.nil
  go_simp
  (go_at_call 107; refine (rmonths6_any _).mono ?_; rintro e wn3 ⟨rfl, hb, hk⟩)
  replace HW1 := Kp.mk ((hb.block _ (blk_lt HW1.out)).trans HW1.out)
  clear dk
  have dk := blk_cell (i := k) HW1.out HWC.out
  have dm := blk_cell (i := mn) hk HMC.out
  replace HD := Kp.mk (HD.out.below hb)
  clear hb hk
  generalize wn2.heap.size = wm at *
  try go_wp2_with fail
  refine hK.out _ _ (⟨⟨blk_cell (i := 0) HD.out.box rfl, blk_cell (i := 1) HD.out.box rfl, blk_cell (i := 2) HD.out.box rfl, blk_cell (i := 3) HD.out.box rfl, blk_cell (i := 4) HD.out.box rfl, blk_cell (i := 5) HD.out.box rfl⟩, dk⟩) (fun hHeld2 => ?_)
  clear hK K
  try simp only [Act.put, List.setIfInBounds_toArray, List.set_cons_zero, List.set_cons_succ]
  refine wpAnyH_more (S2 := fun w' => ((w'.cell? ⟨w.heap.size, 0, none⟩ = some (.int .i64 y) ∧ w'.cell? ⟨w.heap.size, 1, none⟩ = some (.int .i64 m) ∧ w'.cell? ⟨w.heap.size, 2, none⟩ = some (.int .i64 d) ∧ w'.cell? ⟨w.heap.size, 3, none⟩ = some (.int .i64 H) ∧ w'.cell? ⟨w.heap.size, 4, none⟩ = some (.int .i64 M) ∧ w'.cell? ⟨w.heap.size, 5, none⟩ = some (.int .i64 S)) ∧ w'.cell? ⟨w.heap.size + 1, k, none⟩ = some (.string (wdS k))) ∧ w'.cell? ⟨wm, mn, none⟩ = some (.string (moS mn))) (fun w h => h.1) _ _ _ _ ?_
  have hHeld8 := And.intro hHeld2 dm
  clear hHeld2
  refine wpAnyH_take (i := 9) (oi := ⟨some 17, .indexAddr 54 (.tmp 13) (.tmp 16), _, _, _, none⟩) (v := ?_) rfl (by kernel_rfl) (by kernel_rfl) (by kernel_rfl) (fun _ _ _ h => h) (Or.inl ⟨by rfl, ?_⟩) (by assumption) ?_
  rotate_left
  · intro w hSw
    try dsimp only at hSw
    go_simp
    try with_reducible rfl
  try simp only [Act.put, List.setIfInBounds_toArray, List.set_cons_zero, List.set_cons_succ]
  refine wpAnyH_take (i := 10) (oi := ⟨some 18, .load 9 (.tmp 17), _, _, _, none⟩) (v := ?_) rfl (by kernel_rfl) (by kernel_rfl) (by kernel_rfl) (fun _ _ _ h => h) (Or.inl ⟨by rfl, ?_⟩) (by assumption) ?_
  rotate_left
  · intro w hSw
    try dsimp only at hSw
    go_simp
    try with_reducible rfl
  try simp only [Act.put, List.setIfInBounds_toArray, List.set_cons_zero, List.set_cons_succ]
  refine wpAnyH_take (i := 11) (oi := ⟨some 5, .assign (.tmp 12), _, _, _, none⟩) (v := ?_) rfl (by kernel_rfl) (by kernel_rfl) (by kernel_rfl) (fun _ _ _ h => h) (Or.inl ⟨by rfl, ?_⟩) (by assumption) ?_
  rotate_left
  · intro w hSw
    try dsimp only at hSw
    go_simp
    try with_reducible rfl
  try simp only [Act.put, List.setIfInBounds_toArray, List.set_cons_zero, List.set_cons_succ]
  refine wpAnyH_take (i := 12) (oi := ⟨some 6, .assign (.tmp 18), _, _, _, none⟩) (v := ?_) rfl (by kernel_rfl) (by kernel_rfl) (by kernel_rfl) (fun _ _ _ h => h) (Or.inl ⟨by rfl, ?_⟩) (by assumption) ?_
  rotate_left
  · intro w hSw
    try dsimp only at hSw
    go_simp
    try with_reducible rfl
  try simp only [Act.put, List.setIfInBounds_toArray, List.set_cons_zero, List.set_cons_succ]
  refine wpAnyH_done (by kernel_rfl) ?_ _
  have l0 : ((wdS k).extract 0 3).size = 3 := by rw [H3.out]; exact l1
  have p0 := fun p : InS (DBx #[.int .i64 y, .int .i64 m, .int .i64 d, .int .i64 H, .int .i64 M, .int .i64 S] w) => blk_cell (i := 0) p.ok.box rfl
  have p1 := fun p : InS (DBx #[.int .i64 y, .int .i64 m, .int .i64 d, .int .i64 H, .int .i64 M, .int .i64 S] w) => blk_cell (i := 1) p.ok.box rfl
  have p2 := fun p : InS (DBx #[.int .i64 y, .int .i64 m, .int .i64 d, .int .i64 H, .int .i64 M, .int .i64 S] w) => blk_cell (i := 2) p.ok.box rfl
  have p3 := fun p : InS (DBx #[.int .i64 y, .int .i64 m, .int .i64 d, .int .i64 H, .int .i64 M, .int .i64 S] w) => blk_cell (i := 3) p.ok.box rfl
  have p4 := fun p : InS (DBx #[.int .i64 y, .int .i64 m, .int .i64 d, .int .i64 H, .int .i64 M, .int .i64 S] w) => blk_cell (i := 4) p.ok.box rfl
  have p5 := fun p : InS (DBx #[.int .i64 y, .int .i64 m, .int .i64 d, .int .i64 H, .int .i64 M, .int .i64 S] w) => blk_cell (i := 5) p.ok.box rfl
  haveI hne : Nonempty (InS (DBx #[.int .i64 y, .int .i64 m, .int .i64 d, .int .i64 H, .int .i64 M, .int .i64 S] w)) := ⟨⟨_, HD.out⟩⟩
  have HD2 := Kp.mk (show DBx #[.int .i64 y, .int .i64 m, .int .i64 d, .int .i64 H, .int .i64 M, .int .i64 S] w wn3.drew from HD.out.below (gdrewN _ 1))
  obtain ⟨⟨b1, b2⟩, ⟨b3, b4⟩, -⟩ := HBD.out
  go_wp2_with fail
  refine region_in _ (by kernel_rfl) (by kernel_rfl) HD2.out ?_
  iterate 5 (go_big_quiet_step (fail))
  go_big_quiet_step ((go_at_call 108; exact call_in fun w h => (rpad2_any _ w (by omega) (by omega)).mono fun _ _ h2 => ⟨h2.1, h.below h2.2⟩))
  iterate 7 (go_big_quiet_step (fail))
  go_big_quiet_step ((go_at_call 108; exact call_in fun w h => (rpad4_any _ w (by omega) (by omega)).mono fun _ _ h2 => ⟨h2.1, h.below h2.2⟩))
  iterate 3 (go_big_quiet_step (fail))
  go_big_quiet_step ((go_at_call 109; exact call_in fun w h => (HCLK.out w).mono fun _ _ h2 => ⟨h2.1, h.below h2.2⟩))
  iterate 3 (go_big_quiet_step (fail))
  refine wpQuiet_nil ?_
  intro _ hw'
  obtain ⟨wq, rfl⟩ := hw'
  go_wp2_with fail
  go_ret
  exact ⟨by rw [HTX.out, ← H3.out]; rfl, wq.ok.bel⟩
noncomputable def dtV (n : Int) : Value := .agg #[.int .i64 (dyY n), .int .i64 (dyM n), .int .i64 (dyD n), .int .i64 (dH n), .int .i64 (dM n), .int .i64 (dS n)]
set_option maxRecDepth 100000 in
set_option maxHeartbeats 1000000 in
theorem rprint_any (n : Int) (w : World) (h0 : -9223372036854775808 ≤ n) (h1 : n ≤ 9223372036854775807) :
    Calls Tryz.prog 55 #[.int .i64 n] w fun e w' => e = .returned (.string (prtB n)) ∧ Below w.heap.size w w' := by
  cases hpl : placeB (n / 86400)
  · have HP := Kp.mk (show prtB n = ⟨#[]⟩ by unfold prtB; rw [hpl]; rfl)
    have HD := Kp.mk (ref_date_any n w h0 h1)
    rw [hpl] at HD
    clear hpl
    go_enter Tryz.func55, Tryz.ntmps55
    go_wp2_with fail
    refine HD.out.mono ?_
    rintro e w1 ⟨rfl, hb1⟩
    go_wp2_with fail
    go_ret
    exact ⟨by rw [HP.out]; rfl, hb1.trans (((Below.refl _ _).alloc (Nat.le_refl _) _).mono hb1.size)⟩
  · have HP := Kp.mk (show prtB n = ofL (pcAcc n 18) by unfold prtB; rw [hpl]; rfl)
    have HD := Kp.mk (ref_date_any n w h0 h1)
    have hrg := date_ranges n hpl
    have htr := time_ranges n
    obtain ⟨mn, hmn, hml⟩ : ∃ mn : Nat, dyM n - 1 = (mn : Int) ∧ mn < 12 := ⟨(dyM n - 1).toNat, by omega, by omega⟩
    have HT := Kp.mk (fix_text n mn hmn)
    have HW := Kp.mk (rwrite1_of (dyY n) (dyM n) (dyD n) (dH n) (dM n) (dS n) (wkN n) mn (wkN_lt n) hmn hml ⟨by omega, by omega, by omega, by omega, by omega⟩ (fun w => rday6_any n hpl w))
    rw [hpl] at HD
    clear hpl hmn hml
    generalize fixT (wkN n) mn (dyY n) (dyD n) (dH n) (dM n) (dS n) = FX at *
    rw [show (dayOf (n / 86400)).1 = dyY n from rfl, show (dayOf (n / 86400)).2.1 = dyM n from rfl, show (dayOf (n / 86400)).2.2 = dyD n from rfl] at HD
    generalize dyY n = y at *
    generalize dyM n = m at *
    generalize dyD n = d at *
    generalize dH n = H at *
    generalize dM n = M at *
    generalize dS n = S at *
    go_enter Tryz.func55, Tryz.ntmps55
    go_wp2_with fail
    refine HD.out.mono ?_
    rintro e w1 ⟨rfl, hb1⟩
    have HB := Kp.mk (hb1.trans (((Below.refl w1.heap.size w1).alloc (Nat.le_refl _) (.cells #[.int .i64 y, .int .i64 m, .int .i64 d, .int .i64 H, .int .i64 M, .int .i64 S] 66)).mono hb1.size))
    clear hb1
    go_wp2_with fail
    refine (HW.out _).mono ?_
    rintro e w2 ⟨rfl, hb2⟩
    go_wp2_with fail
    go_ret
    exact ⟨by rw [HP.out, ← HT.out]; rfl, HB.out.trans (hb2.mono HB.out.size)⟩
end Go.Proofs.YtgamekfickheaaaGreat
