/- Refusals (layer 33): the law RefusalTells. -/
import Derived.Test.YtlpcjnjhpgddmaaRec
import Derived.Test.YtlpcjnjhpgddmaaStr
namespace Go.Proofs.Ytlpcjnjhpgddmaa
open Go.RowKit
set_option linter.unusedVariables false
set_option linter.unusedSimpArgs false

theorem sameL_33 {α : Type} [DecidableEq α] (l : List α) : sameL l l = true := decide_eq_true rfl
theorem f33_len (now : Int) (S : ByteArray) : (f33 now S).length ≤ 3 := by unfold f33; split <;> simp
set_option maxRecDepth 100000 in
set_option maxHeartbeats 2000000 in
theorem same22_any (m t : ByteArray) (mi st : Int) (r : ByteArray) (u1 u2 : Value) (L : List Fld) (w : World) (h1 : RdF w u1 L) (h2 : RdF w u2 L) (hl : L.length ≤ 1000000) :
    Calls Try.prog 27 #[.agg #[.string m, .string t, .int .i64 mi, .int .i64 st, .string r, u1], .agg #[.string m, .string t, .int .i64 mi, .int .i64 st, .string r, u2]] w fun e w' => e = .returned (.bool true) ∧ Below w.heap.size w w' := by
  have H1 := Kp.mk h1
  have H2 := Kp.mk h2
  obtain ⟨a1, c1, rfl, -, -, -⟩ := h1
  obtain ⟨a2, c2, rfl, -, -, -⟩ := h2
  have e1 : (w.alloc (.cells #[.string m, .string t, .int .i64 mi, .int .i64 st, .string r, .slice a1 L.length c1] 42)).heap.size = w.heap.size + 1 := World.size_alloc _ _
  have k1 := heap_alloc_new w (.cells #[.string m, .string t, .int .i64 mi, .int .i64 st, .string r, .slice a1 L.length c1] 42)
  have k2 := heap_alloc_new (w.alloc (.cells #[.string m, .string t, .int .i64 mi, .int .i64 st, .string r, .slice a1 L.length c1] 42)) (.cells #[.string m, .string t, .int .i64 mi, .int .i64 st, .string r, .slice a2 L.length c2] 42)
  rw [e1] at k2
  have K1 := Kp.mk (blk_alloc (o2 := .cells #[.string m, .string t, .int .i64 mi, .int .i64 st, .string r, .slice a2 L.length c2] 42) k1)
  have K2 := Kp.mk k2
  have HB := Kp.mk (((Below.refl w.heap.size w).alloc (Nat.le_refl _) (.cells #[.string m, .string t, .int .i64 mi, .int .i64 st, .string r, .slice a1 L.length c1] 42)).alloc (by rw [e1]; omega) (.cells #[.string m, .string t, .int .i64 mi, .int .i64 st, .string r, .slice a2 L.length c2] 42))
  clear k1 k2
  go_enter Try.func27, Try.ntmps27
  go_wp2_with fail
  refine (same15_any _ _ _ _ _ _ _ _ _ _ _ _).mono ?_
  rintro e w3 ⟨rfl, hb3⟩
  have c15 := blk_cell (i := 5) ((hb3.block _ (blk_lt K1.out)).trans K1.out) rfl
  have c25 := blk_cell (i := 5) ((hb3.block _ (blk_lt K2.out)).trans K2.out) rfl
  have HB3 := Kp.mk (HB.out.trans (hb3.mono HB.out.size))
  clear hb3
  go_wp2_with fail
  refine (rfsame_any _ _ L L _ (H1.out.below HB3.out) (H2.out.below HB3.out) hl hl).mono ?_
  rw [sameL_33]
  rintro e w4 ⟨rfl, hb4⟩
  go_wp2_with fail
  go_ret
  exact ⟨rfl, HB3.out.trans (hb4.mono HB3.out.size)⟩
theorem prt_ne (n : Int) (h : placeB (n / 86400) = true) : (prtB n).size ≠ 0 := by
  unfold prtB
  rw [if_pos h, ofL_size]
  have : (pcAcc n 18).length = (pcAcc n 17).length + 1 := by
    rw [show pcAcc n 18 = pcAcc n 17 ++ [84] from rfl, List.length_append]; rfl
  omega
set_option maxRecDepth 100000 in
set_option maxHeartbeats 2000000 in
theorem lives33_any (w : World) : Calls Try.prog 32 #[] w fun e w' => e = .returned (.bool true) ∧ Below w.heap.size w w' := by
  have HH := Kp.mk (head33_any 400 1 0 w (by omega) (by omega))
  have HS1 := Kp.mk (status33_any 1 4)
  have HS2 := Kp.mk (status33_any 2 19)
  rw [show rfS 1 4 = 431 from rfl] at HS1
  rw [show rfS 2 19 = 502 from rfl] at HS2
  have hl : (f33 0 (prtB 0)).length = 3 := by unfold f33; rw [if_neg (prt_ne 0 (by decide))]; rfl
  unfold RetH33 hv33 at HH
  rw [hl, show rsnS 400 = ⟨#[66, 97, 100, 32, 82, 101, 113, 117, 101, 115, 116]⟩ from rfl, show mnI 1 = 1 from rfl] at HH
  clear hl
  go_enter Try.func32, Try.ntmps32
  go_wp2_with fail
  refine HH.out.mono ?_
  rintro e w1 ⟨u, rfl, ho, hb1⟩
  obtain ⟨ua, uc, rfl⟩ := own_lenH ho
  have K1 := Kp.mk (heap_alloc_new w1 (.cells #[.string ⟨#[]⟩, .string ⟨#[]⟩, .int .i64 1, .int .i64 400, .string ⟨#[66, 97, 100, 32, 82, 101, 113, 117, 101, 115, 116]⟩, .slice ua 3 uc] 42))
  have HB1 := Kp.mk (hb1.alloc hb1.size (.cells #[.string ⟨#[]⟩, .string ⟨#[]⟩, .int .i64 1, .int .i64 400, .string ⟨#[66, 97, 100, 32, 82, 101, 113, 117, 101, 115, 116]⟩, .slice ua 3 uc] 42))
  clear ho hb1
  go_wp2_with fail
  refine (HS1.out _).mono ?_
  rintro e w2 ⟨rfl, hb2⟩
  replace K1 := Kp.mk ((hb2.block _ (blk_lt K1.out)).trans K1.out)
  have HB2 := Kp.mk (HB1.out.trans (hb2.mono HB1.out.size))
  clear hb2
  go_wp2_with fail
  refine (HS2.out _).mono ?_
  rintro e w3 ⟨rfl, hb3⟩
  have k3 := (hb3.block _ (blk_lt K1.out)).trans K1.out
  have c4 := blk_cell (i := 4) k3 rfl
  have c5 := blk_cell (i := 5) k3 rfl
  have HB3 := Kp.mk (HB2.out.trans (hb3.mono HB2.out.size))
  clear hb3 k3
  go_wp2_with fail
  go_ret
  exact ⟨rfl, HB3.out⟩
/-- The box of a case. -/
structure CBx (s minor now : Int) (w W : World) : Prop where
  box : W.heap[w.heap.size]? = some (.cells #[.int .i64 s, .int .i64 minor, .int .i64 now] 38 (0, 0))
  bel : Below w.heap.size w W
theorem CBx.below {s minor now : Int} {w W W' : World} (h : CBx s minor now w W) (hb : Below W.heap.size W W') : CBx s minor now w W' := ⟨(hb.block _ (blk_lt h.box)).trans h.box, h.bel.trans (hb.mono h.bel.size)⟩
set_option maxRecDepth 100000 in
set_option maxHeartbeats 8000000 in
theorem rtell_walk (side e s minor now : Int) (w : World) (h0 : -9223372036854775808 ≤ now) (h1 : now ≤ 9223372036854775807) :
    Calls Try.prog 6 #[.int .i64 side, .int .i64 e, .agg #[.int .i64 s, .int .i64 minor, .int .i64 now]] w fun r w' => r = .returned (.bool true) ∧ Below w.heap.size w w' := by
  have HX := Kp.mk (show CBx s minor now w ((w.alloc (.cells #[.int .i64 s, .int .i64 minor, .int .i64 now] 38)).drew) from ⟨heap_alloc_new w _, ((Below.refl _ _).alloc (Nat.le_refl _) _).drew⟩)
  have HS := Kp.mk (status33_any side e)
  have HRS := Kp.mk (rstatus33_any side e)
  have HH := Kp.mk (fun w => head33_any s minor now w h0 h1)
  have HRH := Kp.mk (fun w => rhead33_any s minor now w h0 h1)
  have HC := Kp.mk (fun w => cont33_any minor w)
  have HRC := Kp.mk (fun w => rcont33_any minor w)
  have hL := f33_len now (prtB now)
  unfold RetH33 hv33 at HH HRH
  unfold hv33 at HC HRC
  generalize rfS side e = st at *
  generalize f33 now (prtB now) = L at *
  generalize rsnS s = R at *
  generalize rsnS 100 = R2 at *
  generalize mnI minor = mi at *
  have hee : (st == st) = true := by simp
  clear h0 h1
  go_enter Try.func6, Try.ntmps6
  go_upto_region 1 with fail
  refine wp_region_held_drew (S := fun w' => w'.cell? ⟨w.heap.size, 0, none⟩ = some (.int .i64 s) ∧ w'.cell? ⟨w.heap.size, 1, none⟩ = some (.int .i64 minor) ∧ w'.cell? ⟨w.heap.size, 2, none⟩ = some (.int .i64 now)) (by kernel_rfl) (⟨blk_cell (i := 0) HX.out.box rfl, blk_cell (i := 1) HX.out.box rfl, blk_cell (i := 2) HX.out.box rfl⟩) (fun hHeld => ?_)
  refine wpAnyH_take (i := 0) (oi := ⟨some 7, .move (.tmp 0), _, _, _, none⟩) (v := ?_) rfl (by kernel_rfl) (by kernel_rfl) (by kernel_rfl) (fun _ _ _ h => h) (Or.inl ⟨by rfl, ?_⟩) (by assumption) ?_
  rotate_left
  · intro w hSw
    try dsimp only at hSw
    go_simp
    try with_reducible rfl
  try simp only [Act.put, List.setIfInBounds_toArray, List.set_cons_zero, List.set_cons_succ]
  refine wpAnyH_take (i := 1) (oi := ⟨some 8, .move (.tmp 1), _, _, _, none⟩) (v := ?_) rfl (by kernel_rfl) (by kernel_rfl) (by kernel_rfl) (fun _ _ _ h => h) (Or.inl ⟨by rfl, ?_⟩) (by assumption) ?_
  rotate_left
  · intro w hSw
    try dsimp only at hSw
    go_simp
    try with_reducible rfl
  try simp only [Act.put, List.setIfInBounds_toArray, List.set_cons_zero, List.set_cons_succ]
  refine wpAnyH_take (i := 3) (oi := ⟨some 10, .move (.tmp 0), _, _, _, none⟩) (v := ?_) rfl (by kernel_rfl) (by kernel_rfl) (by kernel_rfl) (fun _ _ _ h => h) (Or.inl ⟨by rfl, ?_⟩) (by assumption) ?_
  rotate_left
  · intro w hSw
    try dsimp only at hSw
    go_simp
    try with_reducible rfl
  try simp only [Act.put, List.setIfInBounds_toArray, List.set_cons_zero, List.set_cons_succ]
  refine wpAnyH_take (i := 4) (oi := ⟨some 11, .move (.tmp 1), _, _, _, none⟩) (v := ?_) rfl (by kernel_rfl) (by kernel_rfl) (by kernel_rfl) (fun _ _ _ h => h) (Or.inl ⟨by rfl, ?_⟩) (by assumption) ?_
  rotate_left
  · intro w hSw
    try dsimp only at hSw
    go_simp
    try with_reducible rfl
  try simp only [Act.put, List.setIfInBounds_toArray, List.set_cons_zero, List.set_cons_succ]
  refine wpAnyH_ready (rs := [2]) (by kernel_rfl) (by simp) ?_
  refine AllReadyH.cons (o := ⟨some 9, _, _, _, _, none⟩) rfl (fun K hK => ?_) AllReadyH.nil
  go_simp
  (go_at_call 25; refine (HS.out _).mono ?_; rintro r wn ⟨rfl, hb⟩)
  replace HX := Kp.mk (HX.out.below hb)
  clear hb
  try go_wp2_with fail
  refine hK.out _ _ (⟨blk_cell (i := 0) HX.out.box rfl, blk_cell (i := 1) HX.out.box rfl, blk_cell (i := 2) HX.out.box rfl⟩) (fun hHeld2 => ?_)
  clear hK K
  try simp only [Act.put, List.setIfInBounds_toArray, List.set_cons_zero, List.set_cons_succ]
  refine wpAnyH_ready (rs := [5]) (by kernel_rfl) (by simp) ?_
  refine AllReadyH.cons (o := ⟨some 12, _, _, _, _, none⟩) rfl (fun K hK => ?_) AllReadyH.nil
  go_simp
  (go_at_call 26; refine (HRS.out _).mono ?_; rintro r wn ⟨rfl, rfl⟩)
  try go_wp2_with fail
  refine hK.out _ _ (⟨blk_cell (i := 0) HX.out.box rfl, blk_cell (i := 1) HX.out.box rfl, blk_cell (i := 2) HX.out.box rfl⟩) (fun hHeld2 => ?_)
  clear hK K
  try simp only [Act.put, List.setIfInBounds_toArray, List.set_cons_zero, List.set_cons_succ]
  refine wpAnyH_take (i := 6) (oi := ⟨some 13, .binOp .eql 3 (.tmp 9) (.tmp 12) 3, _, _, _, none⟩) (v := ?_) rfl (by kernel_rfl) (by kernel_rfl) (by kernel_rfl) (fun _ _ _ h => h) (Or.inl ⟨by rfl, ?_⟩) (by assumption) ?_
  rotate_left
  · intro w hSw
    try dsimp only at hSw
    go_simp
    try with_reducible rfl
  try simp only [Act.put, List.setIfInBounds_toArray, List.set_cons_zero, List.set_cons_succ]
  refine wpAnyH_take (i := 7) (oi := ⟨some 14, .move (.tmp 13), _, _, _, none⟩) (v := ?_) rfl (by kernel_rfl) (by kernel_rfl) (by kernel_rfl) (fun _ _ _ h => h) (Or.inl ⟨by rfl, ?_⟩) (by assumption) ?_
  rotate_left
  · intro w hSw
    try dsimp only at hSw
    go_simp
    try with_reducible rfl
  try simp only [Act.put, List.setIfInBounds_toArray, List.set_cons_zero, List.set_cons_succ]
  refine wpAnyH_take (i := 8) (oi := ⟨some 15, .fieldAddr 38 (.tmp 5) 0, _, _, _, some (7, true)⟩) (v := ?_) rfl (by kernel_rfl) (by kernel_rfl) (by kernel_rfl) (fun _ _ _ h => h) (Or.inl ⟨by rfl, ?_⟩) (by assumption) ?_
  rotate_left
  · intro w hSw
    try dsimp only at hSw
    go_simp
    try with_reducible rfl
  try simp only [Act.put, List.setIfInBounds_toArray, List.set_cons_zero, List.set_cons_succ]
  refine wpAnyH_take (i := 9) (oi := ⟨some 16, .load 3 (.tmp 15), _, _, _, some (7, true)⟩) (v := ?_) rfl (by kernel_rfl) (by kernel_rfl) (by kernel_rfl) (fun _ _ _ h => h) (Or.inl ⟨by rfl, ?_⟩) (by assumption) ?_
  rotate_left
  · intro w hSw
    try dsimp only at hSw
    go_simp
    try with_reducible rfl
  try simp only [Act.put, List.setIfInBounds_toArray, List.set_cons_zero, List.set_cons_succ]
  refine wpAnyH_take (i := 10) (oi := ⟨some 17, .fieldAddr 38 (.tmp 5) 1, _, _, _, some (7, true)⟩) (v := ?_) rfl (by kernel_rfl) (by kernel_rfl) (by kernel_rfl) (fun _ _ _ h => h) (Or.inl ⟨by rfl, ?_⟩) (by assumption) ?_
  rotate_left
  · intro w hSw
    try dsimp only at hSw
    go_simp
    try with_reducible rfl
  try simp only [Act.put, List.setIfInBounds_toArray, List.set_cons_zero, List.set_cons_succ]
  refine wpAnyH_take (i := 11) (oi := ⟨some 18, .load 3 (.tmp 17), _, _, _, some (7, true)⟩) (v := ?_) rfl (by kernel_rfl) (by kernel_rfl) (by kernel_rfl) (fun _ _ _ h => h) (Or.inl ⟨by rfl, ?_⟩) (by assumption) ?_
  rotate_left
  · intro w hSw
    try dsimp only at hSw
    go_simp
    try with_reducible rfl
  try simp only [Act.put, List.setIfInBounds_toArray, List.set_cons_zero, List.set_cons_succ]
  refine wpAnyH_take (i := 12) (oi := ⟨some 19, .fieldAddr 38 (.tmp 5) 2, _, _, _, some (7, true)⟩) (v := ?_) rfl (by kernel_rfl) (by kernel_rfl) (by kernel_rfl) (fun _ _ _ h => h) (Or.inl ⟨by rfl, ?_⟩) (by assumption) ?_
  rotate_left
  · intro w hSw
    try dsimp only at hSw
    go_simp
    try with_reducible rfl
  try simp only [Act.put, List.setIfInBounds_toArray, List.set_cons_zero, List.set_cons_succ]
  refine wpAnyH_take (i := 13) (oi := ⟨some 20, .load 3 (.tmp 19), _, _, _, some (7, true)⟩) (v := ?_) rfl (by kernel_rfl) (by kernel_rfl) (by kernel_rfl) (fun _ _ _ h => h) (Or.inl ⟨by rfl, ?_⟩) (by assumption) ?_
  rotate_left
  · intro w hSw
    try dsimp only at hSw
    go_simp
    try with_reducible rfl
  try simp only [Act.put, List.setIfInBounds_toArray, List.set_cons_zero, List.set_cons_succ]
  refine wpAnyH_take (i := 15) (oi := ⟨some 22, .fieldAddr 38 (.tmp 5) 0, _, _, _, some (7, true)⟩) (v := ?_) rfl (by kernel_rfl) (by kernel_rfl) (by kernel_rfl) (fun _ _ _ h => h) (Or.inl ⟨by rfl, ?_⟩) (by assumption) ?_
  rotate_left
  · intro w hSw
    try dsimp only at hSw
    go_simp
    try with_reducible rfl
  try simp only [Act.put, List.setIfInBounds_toArray, List.set_cons_zero, List.set_cons_succ]
  refine wpAnyH_take (i := 16) (oi := ⟨some 23, .load 3 (.tmp 22), _, _, _, some (7, true)⟩) (v := ?_) rfl (by kernel_rfl) (by kernel_rfl) (by kernel_rfl) (fun _ _ _ h => h) (Or.inl ⟨by rfl, ?_⟩) (by assumption) ?_
  rotate_left
  · intro w hSw
    try dsimp only at hSw
    go_simp
    try with_reducible rfl
  try simp only [Act.put, List.setIfInBounds_toArray, List.set_cons_zero, List.set_cons_succ]
  refine wpAnyH_take (i := 17) (oi := ⟨some 24, .fieldAddr 38 (.tmp 5) 1, _, _, _, some (7, true)⟩) (v := ?_) rfl (by kernel_rfl) (by kernel_rfl) (by kernel_rfl) (fun _ _ _ h => h) (Or.inl ⟨by rfl, ?_⟩) (by assumption) ?_
  rotate_left
  · intro w hSw
    try dsimp only at hSw
    go_simp
    try with_reducible rfl
  try simp only [Act.put, List.setIfInBounds_toArray, List.set_cons_zero, List.set_cons_succ]
  refine wpAnyH_take (i := 18) (oi := ⟨some 25, .load 3 (.tmp 24), _, _, _, some (7, true)⟩) (v := ?_) rfl (by kernel_rfl) (by kernel_rfl) (by kernel_rfl) (fun _ _ _ h => h) (Or.inl ⟨by rfl, ?_⟩) (by assumption) ?_
  rotate_left
  · intro w hSw
    try dsimp only at hSw
    go_simp
    try with_reducible rfl
  try simp only [Act.put, List.setIfInBounds_toArray, List.set_cons_zero, List.set_cons_succ]
  refine wpAnyH_take (i := 19) (oi := ⟨some 26, .fieldAddr 38 (.tmp 5) 2, _, _, _, some (7, true)⟩) (v := ?_) rfl (by kernel_rfl) (by kernel_rfl) (by kernel_rfl) (fun _ _ _ h => h) (Or.inl ⟨by rfl, ?_⟩) (by assumption) ?_
  rotate_left
  · intro w hSw
    try dsimp only at hSw
    go_simp
    try with_reducible rfl
  try simp only [Act.put, List.setIfInBounds_toArray, List.set_cons_zero, List.set_cons_succ]
  refine wpAnyH_take (i := 20) (oi := ⟨some 27, .load 3 (.tmp 26), _, _, _, some (7, true)⟩) (v := ?_) rfl (by kernel_rfl) (by kernel_rfl) (by kernel_rfl) (fun _ _ _ h => h) (Or.inl ⟨by rfl, ?_⟩) (by assumption) ?_
  rotate_left
  · intro w hSw
    try dsimp only at hSw
    go_simp
    try with_reducible rfl
  try simp only [Act.put, List.setIfInBounds_toArray, List.set_cons_zero, List.set_cons_succ]
  refine wpAnyH_ready (rs := [14]) (by kernel_rfl) (by simp) ?_
  refine AllReadyH.cons (o := ⟨some 21, _, _, _, _, some (7, true)⟩) rfl (fun K hK => ?_) AllReadyH.nil
  go_simp
  (go_at_call 28; refine (HH.out _).mono ?_; rintro r wn ⟨u1, rfl, ho, hb⟩)
  obtain ⟨ua1, uc1, rfl⟩ := own_lenH ho
  have HP := Kp.mk (rdf_own ho)
  clear ho
  replace HX := Kp.mk (HX.out.below hb)
  clear hb
  try go_wp2_with fail
  refine hK.out _ _ (⟨blk_cell (i := 0) HX.out.box rfl, blk_cell (i := 1) HX.out.box rfl, blk_cell (i := 2) HX.out.box rfl⟩) (fun hHeld2 => ?_)
  clear hK K
  try simp only [Act.put, List.setIfInBounds_toArray, List.set_cons_zero, List.set_cons_succ]
  refine wpAnyH_ready (rs := [21]) (by kernel_rfl) (by simp) ?_
  refine AllReadyH.cons (o := ⟨some 28, _, _, _, _, some (7, true)⟩) rfl (fun K hK => ?_) AllReadyH.nil
  go_simp
  (go_at_call 29; refine (HRH.out _).mono ?_; rintro r wn ⟨u2, rfl, ho, hb⟩)
  obtain ⟨ua2, uc2, rfl⟩ := own_lenH ho
  have HQ := Kp.mk (rdf_own ho)
  replace HP := Kp.mk (HP.out.below hb)
  clear ho
  replace HX := Kp.mk (HX.out.below hb)
  clear hb
  try go_wp2_with fail
  refine hK.out _ _ (⟨blk_cell (i := 0) HX.out.box rfl, blk_cell (i := 1) HX.out.box rfl, blk_cell (i := 2) HX.out.box rfl⟩) (fun hHeld2 => ?_)
  clear hK K
  try simp only [Act.put, List.setIfInBounds_toArray, List.set_cons_zero, List.set_cons_succ]
  refine wpAnyH_ready (rs := [22]) (by kernel_rfl) (by simp) ?_
  refine AllReadyH.cons (o := ⟨some 29, _, _, _, _, some (7, true)⟩) rfl (fun K hK => ?_) AllReadyH.nil
  go_simp
  (go_at_call 27; refine (same22_any _ _ _ _ _ _ _ L _ HP.out HQ.out (by omega)).mono ?_; rintro r wn ⟨rfl, hb⟩)
  replace HX := Kp.mk (HX.out.below hb)
  clear hb
  try go_wp2_with fail
  refine hK.out _ _ (⟨blk_cell (i := 0) HX.out.box rfl, blk_cell (i := 1) HX.out.box rfl, blk_cell (i := 2) HX.out.box rfl⟩) (fun hHeld2 => ?_)
  clear hK K
  try simp only [Act.put, List.setIfInBounds_toArray, List.set_cons_zero, List.set_cons_succ]
  refine wpAnyH_take (i := 23) (oi := ⟨some 30, .pick (.tmp 14) (.tmp 29) (.const (.bool false)), _, _, _, none⟩) (v := ?_) rfl (by kernel_rfl) (by kernel_rfl) (by kernel_rfl) (fun _ _ _ h => h) (Or.inl ⟨by rfl, ?_⟩) (by assumption) ?_
  rotate_left
  · intro w hSw
    try dsimp only at hSw
    go_simp
    try with_reducible rfl
  try simp only [Act.put, List.setIfInBounds_toArray, List.set_cons_zero, List.set_cons_succ]
  refine wpAnyH_take (i := 24) (oi := ⟨some 31, .move (.tmp 30), _, _, _, none⟩) (v := ?_) rfl (by kernel_rfl) (by kernel_rfl) (by kernel_rfl) (fun _ _ _ h => h) (Or.inl ⟨by rfl, ?_⟩) (by assumption) ?_
  rotate_left
  · intro w hSw
    try dsimp only at hSw
    go_simp
    try with_reducible rfl
  try simp only [Act.put, List.setIfInBounds_toArray, List.set_cons_zero, List.set_cons_succ]
  refine wpAnyH_take (i := 25) (oi := ⟨some 32, .fieldAddr 38 (.tmp 5) 1, _, _, _, some (24, true)⟩) (v := ?_) rfl (by kernel_rfl) (by kernel_rfl) (by kernel_rfl) (fun _ _ _ h => h) (Or.inl ⟨by rfl, ?_⟩) (by assumption) ?_
  rotate_left
  · intro w hSw
    try dsimp only at hSw
    go_simp
    try with_reducible rfl
  try simp only [Act.put, List.setIfInBounds_toArray, List.set_cons_zero, List.set_cons_succ]
  refine wpAnyH_take (i := 26) (oi := ⟨some 33, .load 3 (.tmp 32), _, _, _, some (24, true)⟩) (v := ?_) rfl (by kernel_rfl) (by kernel_rfl) (by kernel_rfl) (fun _ _ _ h => h) (Or.inl ⟨by rfl, ?_⟩) (by assumption) ?_
  rotate_left
  · intro w hSw
    try dsimp only at hSw
    go_simp
    try with_reducible rfl
  try simp only [Act.put, List.setIfInBounds_toArray, List.set_cons_zero, List.set_cons_succ]
  refine wpAnyH_take (i := 28) (oi := ⟨some 35, .fieldAddr 38 (.tmp 5) 1, _, _, _, some (24, true)⟩) (v := ?_) rfl (by kernel_rfl) (by kernel_rfl) (by kernel_rfl) (fun _ _ _ h => h) (Or.inl ⟨by rfl, ?_⟩) (by assumption) ?_
  rotate_left
  · intro w hSw
    try dsimp only at hSw
    go_simp
    try with_reducible rfl
  try simp only [Act.put, List.setIfInBounds_toArray, List.set_cons_zero, List.set_cons_succ]
  refine wpAnyH_take (i := 29) (oi := ⟨some 36, .load 3 (.tmp 35), _, _, _, some (24, true)⟩) (v := ?_) rfl (by kernel_rfl) (by kernel_rfl) (by kernel_rfl) (fun _ _ _ h => h) (Or.inl ⟨by rfl, ?_⟩) (by assumption) ?_
  rotate_left
  · intro w hSw
    try dsimp only at hSw
    go_simp
    try with_reducible rfl
  try simp only [Act.put, List.setIfInBounds_toArray, List.set_cons_zero, List.set_cons_succ]
  refine wpAnyH_ready (rs := [27]) (by kernel_rfl) (by simp) ?_
  refine AllReadyH.cons (o := ⟨some 34, _, _, _, _, some (24, true)⟩) rfl (fun K hK => ?_) AllReadyH.nil
  go_simp
  (go_at_call 30; refine (HC.out _).mono ?_; rintro r wn ⟨rfl, hb⟩)
  replace HX := Kp.mk (HX.out.below hb)
  clear hb
  try go_wp2_with fail
  refine hK.out _ _ (⟨blk_cell (i := 0) HX.out.box rfl, blk_cell (i := 1) HX.out.box rfl, blk_cell (i := 2) HX.out.box rfl⟩) (fun hHeld2 => ?_)
  clear hK K
  try simp only [Act.put, List.setIfInBounds_toArray, List.set_cons_zero, List.set_cons_succ]
  refine wpAnyH_ready (rs := [30]) (by kernel_rfl) (by simp) ?_
  refine AllReadyH.cons (o := ⟨some 37, _, _, _, _, some (24, true)⟩) rfl (fun K hK => ?_) AllReadyH.nil
  go_simp
  (go_at_call 31; refine (HRC.out _).mono ?_; rintro r wn ⟨rfl, hb⟩)
  replace HX := Kp.mk (HX.out.below hb)
  clear hb
  try go_wp2_with fail
  refine hK.out _ _ (⟨blk_cell (i := 0) HX.out.box rfl, blk_cell (i := 1) HX.out.box rfl, blk_cell (i := 2) HX.out.box rfl⟩) (fun hHeld2 => ?_)
  clear hK K
  try simp only [Act.put, List.setIfInBounds_toArray, List.set_cons_zero, List.set_cons_succ]
  refine wpAnyH_ready (rs := [31]) (by kernel_rfl) (by simp) ?_
  refine AllReadyH.cons (o := ⟨some 38, _, _, _, _, some (24, true)⟩) rfl (fun K hK => ?_) AllReadyH.nil
  go_simp
  (go_at_call 27; refine (same22_any _ _ _ _ _ _ _ [] _ (RdL.nil (by unfold maxLen; omega)) (RdL.nil (by unfold maxLen; omega)) (by simp)).mono ?_; rintro r wn ⟨rfl, hb⟩)
  replace HX := Kp.mk (HX.out.below hb)
  clear hb
  try go_wp2_with fail
  refine hK.out _ _ (⟨blk_cell (i := 0) HX.out.box rfl, blk_cell (i := 1) HX.out.box rfl, blk_cell (i := 2) HX.out.box rfl⟩) (fun hHeld2 => ?_)
  clear hK K
  try simp only [Act.put, List.setIfInBounds_toArray, List.set_cons_zero, List.set_cons_succ]
  refine wpAnyH_take (i := 32) (oi := ⟨some 39, .pick (.tmp 31) (.tmp 38) (.const (.bool false)), _, _, _, none⟩) (v := ?_) rfl (by kernel_rfl) (by kernel_rfl) (by kernel_rfl) (fun _ _ _ h => h) (Or.inl ⟨by rfl, ?_⟩) (by assumption) ?_
  rotate_left
  · intro w hSw
    try dsimp only at hSw
    go_simp
    try with_reducible rfl
  try simp only [Act.put, List.setIfInBounds_toArray, List.set_cons_zero, List.set_cons_succ]
  refine wpAnyH_take (i := 33) (oi := ⟨some 40, .move (.tmp 39), _, _, _, none⟩) (v := ?_) rfl (by kernel_rfl) (by kernel_rfl) (by kernel_rfl) (fun _ _ _ h => h) (Or.inl ⟨by rfl, ?_⟩) (by assumption) ?_
  rotate_left
  · intro w hSw
    try dsimp only at hSw
    go_simp
    try with_reducible rfl
  try simp only [Act.put, List.setIfInBounds_toArray, List.set_cons_zero, List.set_cons_succ]
  refine wpAnyH_ready (rs := [34]) (by kernel_rfl) (by simp) ?_
  refine AllReadyH.cons (o := ⟨some 41, _, _, _, _, some (33, true)⟩) rfl (fun K hK => ?_) AllReadyH.nil
  go_simp
  (go_at_call 32; refine (lives33_any _).mono ?_; rintro r wn ⟨rfl, hb⟩)
  replace HX := Kp.mk (HX.out.below hb)
  clear hb
  try go_wp2_with fail
  refine hK.out _ _ (⟨blk_cell (i := 0) HX.out.box rfl, blk_cell (i := 1) HX.out.box rfl, blk_cell (i := 2) HX.out.box rfl⟩) (fun hHeld2 => ?_)
  clear hK K
  try simp only [Act.put, List.setIfInBounds_toArray, List.set_cons_zero, List.set_cons_succ]
  refine wpAnyH_take (i := 35) (oi := ⟨some 42, .pick (.tmp 40) (.tmp 41) (.const (.bool false)), _, _, _, none⟩) (v := ?_) rfl (by kernel_rfl) (by kernel_rfl) (by kernel_rfl) (fun _ _ _ h => h) (Or.inl ⟨by rfl, ?_⟩) (by assumption) ?_
  rotate_left
  · intro w hSw
    try dsimp only at hSw
    go_simp
    try with_reducible rfl
  try simp only [Act.put, List.setIfInBounds_toArray, List.set_cons_zero, List.set_cons_succ]
  refine wpAnyH_take (i := 36) (oi := ⟨some 6, .assign (.tmp 42), _, _, _, none⟩) (v := ?_) rfl (by kernel_rfl) (by kernel_rfl) (by kernel_rfl) (fun _ _ _ h => h) (Or.inl ⟨by rfl, ?_⟩) (by assumption) ?_
  rotate_left
  · intro w hSw
    try dsimp only at hSw
    go_simp
    try with_reducible rfl
  try simp only [Act.put, List.setIfInBounds_toArray, List.set_cons_zero, List.set_cons_succ]
  refine wpAnyH_done (by kernel_rfl) ?_ _
  go_wp2_with fail
  go_ret
  exact ⟨rfl, HX.out.bel⟩
theorem case_of {P : Program} {w : World} {t ti : TypeId} {fs : Array Field} {E : List Value} (ht : P.underlying t = some (.struct fs)) (hi : P.underlying ti = some (.int .i64)) (hc : P.cellsOf t = 3) (hci : P.cellsOf ti = 1)
    (h0 : ∃ f, fs[0]? = some f ∧ f.type = ti ∧ f.offset = 0) (h1 : ∃ f, fs[1]? = some f ∧ f.type = ti ∧ f.offset = 1) (h2 : ∃ f, fs[2]? = some f ∧ f.type = ti ∧ f.offset = 2) (h : Rdb P w t E) :
    ∃ x y z : Int, E = [.int .i64 x, .int .i64 y, .int .i64 z] ∧ (Lit.int .i64 z).wf = true := by
  obtain ⟨hl, hf⟩ := h.struct ht
  obtain ⟨f0, e0, t0, o0⟩ := h0
  obtain ⟨f1, e1, t1, o1⟩ := h1
  obtain ⟨f2, e2, t2, o2⟩ := h2
  have g0 := hf 0 f0 e0
  have g1 := hf 1 f1 e1
  have g2 := hf 2 f2 e2
  rw [t0, o0, hci] at g0
  rw [t1, o1, hci] at g1
  rw [t2, o2, hci] at g2
  obtain ⟨s0, k0, z0⟩ := g0.int hi
  obtain ⟨s1, k1, z1⟩ := g1.int hi
  obtain ⟨s2, k2, z2⟩ := g2.int hi
  rw [hc] at hl
  match E, hl with
  | [x, y, z], _ =>
    simp at k0 k1 k2
    exact ⟨s0, s1, s2, by rw [k0, k1, k2], z2⟩
theorem Try.fcellsC33 : Try.prog.cellsOf 38 = 3 := by kernel_rfl
theorem Try.fcellsI33 : Try.prog.cellsOf 3 = 1 := by kernel_rfl
theorem rtell_arg (v0 v1 v2 : Value) (w : World) (h0 : Arg Try.prog w 3 v0) (h1 : Arg Try.prog w 36 v1) (h2 : Arg Try.prog w 38 v2) :
    Calls Try.prog 6 #[v0, v1, v2] w fun e w' => e = .returned (.bool true) ∧ Below w.heap.size w w' := by
  obtain ⟨n, rfl, _⟩ := h0.int Try.underlying3
  obtain ⟨x, rfl, _⟩ := h1.int Try.underlying36
  obtain ⟨cs, rfl, hr⟩ := h2.struct Try.underlying38
  obtain ⟨a, b, c, rfl, hw⟩ := case_of Try.underlying38 Try.underlying3 Try.fcellsC33 Try.fcellsI33 ⟨_, rfl, rfl, rfl⟩ ⟨_, rfl, rfl, rfl⟩ ⟨_, rfl, rfl, rfl⟩ hr
  have hb := bounds_i64 hw
  exact rtell_walk n x a b c w hb.1 hb.2
end Go.Proofs.Ytlpcjnjhpgddmaa
