/- Targets (layer 12): Parse, the program's, of what may be a target. -/
import Derived.Test.YtahehpgnemanmaaDoorTgc
import Derived.Laws.EntriesVeiled
import Derived.OrdersHeld
namespace Go.Proofs.YtahehpgnemanmaaDoor
open Go.RowKit
set_option linter.unusedVariables false
set_option linter.unusedSimpArgs false

theorem eq_no {a b : ByteArray} (h : a ≠ b) : (a.toList == b.toList) = false := by
  rw [beq_eq_false_iff_ne]
  intro e
  exact h (ba_ext (by rw [← ByteArray.toList_eq, ← ByteArray.toList_eq, e]))
theorem tgCon_z : tgCon.toList = [67, 79, 78, 78, 69, 67, 84] := by decide +kernel
theorem tgOpt_z : tgOpt.toList = [79, 80, 84, 73, 79, 78, 83] := by decide +kernel
theorem tgStar_z : (⟨#[42]⟩ : ByteArray).toList = [42] := by decide +kernel
theorem tg_good {s : ByteArray} (h : tgBad s = false) : 0 < s.size ∧ visibleB s = true ∧ tgHash s = false ∧ AscS s := by
  have h0 := (tgBad_no.1 h).1
  have hv : visibleB s = true := by rw [tg_bad_or] at h; cases q : visibleB s; rw [q] at h; cases h; rfl
  exact ⟨h0, hv, by rw [tg_bad_or, hv] at h; exact h, visB_lt hv⟩
set_option maxRecDepth 100000 in
set_option maxHeartbeats 4000000 in
theorem tg_good_con (m s : ByteArray) (w : World) (hs : s.size ≤ 1000000) (hb : tgBad s = false) (hm : m = tgCon) (hk : hsE s = 0 ∧ hsHas s = true) : Calls Tryd.prog 8 #[.string m, .string s] w (RetTg ⟨0, 3, s, ⟨#[]⟩⟩ w) := by
  obtain ⟨h0, hv, hh, ha⟩ := tg_good hb
  obtain ⟨n1, n2⟩ := hs_nemp h0
  have HVI := Kp.mk (fun w => oct_visible_any s w (by unfold maxLen; omega))
  have HHA := Kp.mk (fun w => tg_hash_any s w)
  rw [hv] at HVI
  rw [hh] at HHA
  have X0 := Kp.mk (TgX.new s w)
  have HA := Kp.mk ha
  have HPO := Kp.mk (fun w => tg_ported_any s w hs)
  rw [decide_eq_true hk] at HPO
  have hz := tgCon_z
  obtain rfl := hm
  clear hk
  clear hb hv hh ha
  go_enter Tryd.func8, Tryd.ntmps8
  go_wp2_with fail
  refine (HVI.out _).mono ?_
  rintro e w1 ⟨rfl, hb⟩
  have X1 := Kp.mk (X0.out.below hb)
  have d0 := X1.out.b0.cell 0
  clear hb
  simp at d0
  go_wp2_with fail
  refine (HHA.out _).mono ?_
  rintro e w2 ⟨rfl, rfl⟩
  have HM := Kp.mk X1.out.more
  clear d0
  go_wp2_with fail
  have HD := Kp.mk HM.out.drew
  first | go_region_held3 (fun w' => w'.cell? ⟨w.heap.size, 0, none⟩ = some (.string s) ∧ w'.cell? ⟨w1.heap.size + 1, 0, none⟩ = some (.func (.func 30) #[] #[.pointer (some ⟨w1.heap.size, 0, none⟩)]))
    ((exact HD.out.cells))
    ((first
      | (go_at_call 33; refine (HPO.out _).mono ?_; rintro e w99 ⟨rfl, hb99⟩; replace HD := Kp.mk (HD.out.below hb99); clear hb99; have g0 := HD.out.cells.1; have g1 := HD.out.cells.2)
      | (go_at_call 30; (with_reducible refine (tg_take_yes _ _ _ _ _ _ _ _ w _ HD.out).mono ?_); rintro e w99 ⟨rfl, h99⟩; replace HD := Kp.mk h99; clear h99; have g0 := HD.out.cells.1; have g1 := HD.out.cells.2))) | fail
  all_goals
    obtain ⟨c0, c1, c2, f0, f1, f2, hl⟩ := tg_res HD.out.b1
    have t0 := HD.out.b2.cell 0
    have t1 := HD.out.b2.cell 1
    have t2 := HD.out.b2.cell 2
    unfold tgC at t0 t1 t2
    simp at t0 t1 t2
    have HBE := Kp.mk (tgbel3 HD.out.bel (h := w.heap.size + 1) (by omega) (.int .i64 (3)) (.string s) (.string ⟨#[]⟩))
    go_wp2_with fail
    exact bodyPost_ret (v := .tuple #[.agg #[.int .i64 (3), .string s, .string ⟨#[]⟩], .int .i64 0]) (by simp [results, Tryd.results8, go_sem, c0, c1, c2, hl]) rfl ⟨rfl, HBE.out⟩
set_option maxRecDepth 100000 in
set_option maxHeartbeats 4000000 in
theorem tg_good_con0 (m s : ByteArray) (w : World) (hs : s.size ≤ 1000000) (hb : tgBad s = false) (hm : m = tgCon) (hk : ¬ (hsE s = 0 ∧ hsHas s = true)) : Calls Tryd.prog 8 #[.string m, .string s] w (RetTg ⟨11, 0, ⟨#[]⟩, ⟨#[]⟩⟩ w) := by
  obtain ⟨h0, hv, hh, ha⟩ := tg_good hb
  obtain ⟨n1, n2⟩ := hs_nemp h0
  have HVI := Kp.mk (fun w => oct_visible_any s w (by unfold maxLen; omega))
  have HHA := Kp.mk (fun w => tg_hash_any s w)
  rw [hv] at HVI
  rw [hh] at HHA
  have X0 := Kp.mk (TgX.new s w)
  have HA := Kp.mk ha
  have HPO := Kp.mk (fun w => tg_ported_any s w hs)
  rw [decide_eq_false hk] at HPO
  have hz := tgCon_z
  obtain rfl := hm
  clear hk
  clear hb hv hh ha
  go_enter Tryd.func8, Tryd.ntmps8
  go_wp2_with fail
  refine (HVI.out _).mono ?_
  rintro e w1 ⟨rfl, hb⟩
  have X1 := Kp.mk (X0.out.below hb)
  have d0 := X1.out.b0.cell 0
  clear hb
  simp at d0
  go_wp2_with fail
  refine (HHA.out _).mono ?_
  rintro e w2 ⟨rfl, rfl⟩
  have HM := Kp.mk X1.out.more
  clear d0
  go_wp2_with fail
  have HD := Kp.mk HM.out.drew
  first | go_region_held3 (fun w' => w'.cell? ⟨w.heap.size, 0, none⟩ = some (.string s) ∧ w'.cell? ⟨w1.heap.size + 1, 0, none⟩ = some (.func (.func 30) #[] #[.pointer (some ⟨w1.heap.size, 0, none⟩)]))
    ((exact HD.out.cells))
    ((first
      | (go_at_call 33; refine (HPO.out _).mono ?_; rintro e w99 ⟨rfl, hb99⟩; replace HD := Kp.mk (HD.out.below hb99); clear hb99; have g0 := HD.out.cells.1; have g1 := HD.out.cells.2)
      | (go_at_call 30; (with_reducible refine (tg_take_no _ _ _ _ _ _ w _ HD.out).mono ?_); rintro e w99 ⟨rfl, h99⟩; replace HD := Kp.mk h99; clear h99; have g0 := HD.out.cells.1; have g1 := HD.out.cells.2))) | fail
  all_goals
    obtain ⟨c0, c1, c2, f0, f1, f2, hl⟩ := tg_res HD.out.b1
    have t0 := HD.out.b2.cell 0
    have t1 := HD.out.b2.cell 1
    have t2 := HD.out.b2.cell 2
    unfold tgC at t0 t1 t2
    simp at t0 t1 t2
    have HBE := Kp.mk (tgbel3 HD.out.bel (h := w.heap.size + 1) (by omega) (.int .i64 (0)) (.string ⟨#[]⟩) (.string ⟨#[]⟩))
    go_wp2_with fail
    exact bodyPost_ret (v := .tuple #[.agg #[.int .i64 (0), .string ⟨#[]⟩, .string ⟨#[]⟩], .int .i64 11]) (by simp [results, Tryd.results8, go_sem, c0, c1, c2, hl]) rfl ⟨rfl, HBE.out⟩
set_option maxRecDepth 100000 in
set_option maxHeartbeats 4000000 in
theorem tg_good_path (m s : ByteArray) (w : World) (hs : s.size ≤ 1000000) (hb : tgBad s = false) (hm : m ≠ tgCon) (h47 : bt s 0 = 47) : Calls Tryd.prog 8 #[.string m, .string s] w (RetTg ⟨0, 1, ⟨#[]⟩, s⟩ w) := by
  obtain ⟨h0, hv, hh, ha⟩ := tg_good hb
  obtain ⟨n1, n2⟩ := hs_nemp h0
  have HVI := Kp.mk (fun w => oct_visible_any s w (by unfold maxLen; omega))
  have HHA := Kp.mk (fun w => tg_hash_any s w)
  rw [hv] at HVI
  rw [hh] at HHA
  have X0 := Kp.mk (TgX.new s w)
  have HA := Kp.mk ha
  have hm1 : (m.toList == [67, 79, 78, 78, 69, 67, 84]) = false := by rw [← tgCon_z]; exact eq_no hm
  clear hm
  have hx := bt_at s 0 h0
  have hx2 : ((bt s 0 : Int) == 47) = true := by rw [h47]; rfl
  have hx3 : (0 : Int) < (s.size : Int) := by omega
  clear h47
  clear hb hv hh ha
  go_enter Tryd.func8, Tryd.ntmps8
  go_wp2_with fail
  refine (HVI.out _).mono ?_
  rintro e w1 ⟨rfl, hb⟩
  have X1 := Kp.mk (X0.out.below hb)
  have d0 := X1.out.b0.cell 0
  clear hb
  simp at d0
  go_wp2_with fail
  refine (HHA.out _).mono ?_
  rintro e w2 ⟨rfl, rfl⟩
  have HM := Kp.mk X1.out.more
  clear d0
  go_wp2_with fail
  have HD := Kp.mk HM.out.drew
  refine wp_region_held_drew (S := fun w' => w'.cell? ⟨w.heap.size, 0, none⟩ = some (.string s) ∧ w'.cell? ⟨w1.heap.size + 1, 0, none⟩ = some (.func (.func 30) #[] #[.pointer (some ⟨w1.heap.size, 0, none⟩)])) (by kernel_rfl) HD.out.cells (fun hHeld => ?_)
  refine wpAnyH_take (i := 0) (oi := ⟨some 23, .load 52 (.tmp 7), _, _, _, none⟩) (v := ?_) rfl (by kernel_rfl) (by kernel_rfl) (by kernel_rfl) (fun _ _ _ h => h) (Or.inl ⟨by rfl, ?_⟩) (by assumption) ?_
  rotate_left
  · intro w hSw
    try dsimp only at hSw
    go_simp
    try with_reducible rfl
  try simp only [Act.put, List.setIfInBounds_toArray, List.set_cons_zero, List.set_cons_succ]
  refine wpAnyH_take (i := 1) (oi := ⟨some 24, .load 9 (.tmp 3), _, _, _, none⟩) (v := ?_) rfl (by kernel_rfl) (by kernel_rfl) (by kernel_rfl) (fun _ _ _ h => h) (Or.inl ⟨by rfl, ?_⟩) (by assumption) ?_
  rotate_left
  · intro w hSw
    try dsimp only at hSw
    go_simp
    try with_reducible rfl
  try simp only [Act.put, List.setIfInBounds_toArray, List.set_cons_zero, List.set_cons_succ]
  refine wpAnyH_take (i := 2) (oi := ⟨some 25, .index 9 (.tmp 24) (.const (.int .i64 0)), _, _, _, none⟩) (v := ?_) rfl (by kernel_rfl) (by kernel_rfl) (by kernel_rfl) (fun _ _ _ h => h) (Or.inl ⟨by rfl, ?_⟩) (by assumption) ?_
  rotate_left
  · intro w hSw
    try dsimp only at hSw
    go_simp
    try with_reducible rfl
  try simp only [Act.put, List.setIfInBounds_toArray, List.set_cons_zero, List.set_cons_succ]
  refine wpAnyH_take (i := 3) (oi := ⟨some 26, .binOp .eql 5 (.tmp 25) (.const (.int .u8 47)) 5, _, _, _, none⟩) (v := ?_) rfl (by kernel_rfl) (by kernel_rfl) (by kernel_rfl) (fun _ _ _ h => h) (Or.inl ⟨by rfl, ?_⟩) (by assumption) ?_
  rotate_left
  · intro w hSw
    try dsimp only at hSw
    go_simp
    try with_reducible rfl
  try simp only [Act.put, List.setIfInBounds_toArray, List.set_cons_zero, List.set_cons_succ]
  refine wpAnyH_take (i := 4) (oi := ⟨some 27, .load 9 (.tmp 3), _, _, _, none⟩) (v := ?_) rfl (by kernel_rfl) (by kernel_rfl) (by kernel_rfl) (fun _ _ _ h => h) (Or.inl ⟨by rfl, ?_⟩) (by assumption) ?_
  rotate_left
  · intro w hSw
    try dsimp only at hSw
    go_simp
    try with_reducible rfl
  try simp only [Act.put, List.setIfInBounds_toArray, List.set_cons_zero, List.set_cons_succ]
  refine wpAnyH_ready (rs := [5]) (by kernel_rfl) (by simp) ?_
  refine AllReadyH.cons (o := ⟨some 28, _, _, _, _, none⟩) rfl (fun K hK => ?_) AllReadyH.nil
  go_simp
  (go_at_call 30; (with_reducible refine (tg_take_yes _ _ _ _ _ _ _ _ w _ HD.out).mono ?_); rintro e w99 ⟨rfl, h99⟩; replace HD := Kp.mk h99; clear h99)
  try go_wp2_with fail
  refine hK.out _ _ HD.out.cells (fun hHeld2 => ?_)
  clear hK K
  try simp only [Act.put, List.setIfInBounds_toArray, List.set_cons_zero, List.set_cons_succ]
  refine wpAnyH_take (i := 6) (oi := ⟨some 29, .move (.tmp 28), _, _, _, none⟩) (v := ?_) rfl (by kernel_rfl) (by kernel_rfl) (by kernel_rfl) (fun _ _ _ h => h) (Or.inl ⟨by rfl, ?_⟩) (by assumption) ?_
  rotate_left
  · intro w hSw
    try dsimp only at hSw
    go_simp
    try with_reducible rfl
  try simp only [Act.put, List.setIfInBounds_toArray, List.set_cons_zero, List.set_cons_succ]
  refine wpAnyH_take (i := 7) (oi := ⟨some 30, _, _, _, _, some (6, false)⟩) (v := undef) rfl (by kernel_rfl) (by kernel_rfl) (by kernel_rfl) (fun _ _ _ h => h) (Or.inr ⟨by rfl, rfl⟩) (by assumption) ?_
  try simp only [Act.put, List.setIfInBounds_toArray, List.set_cons_zero, List.set_cons_succ]
  refine wpAnyH_take (i := 8) (oi := ⟨some 31, _, _, _, _, some (6, false)⟩) (v := undef) rfl (by kernel_rfl) (by kernel_rfl) (by kernel_rfl) (fun _ _ _ h => h) (Or.inr ⟨by rfl, rfl⟩) (by assumption) ?_
  try simp only [Act.put, List.setIfInBounds_toArray, List.set_cons_zero, List.set_cons_succ]
  refine wpAnyH_take (i := 9) (oi := ⟨some 32, _, _, _, _, some (6, false)⟩) (v := undef) rfl (by kernel_rfl) (by kernel_rfl) (by kernel_rfl) (fun _ _ _ h => h) (Or.inr ⟨by rfl, rfl⟩) (by assumption) ?_
  try simp only [Act.put, List.setIfInBounds_toArray, List.set_cons_zero, List.set_cons_succ]
  refine wpAnyH_take (i := 10) (oi := ⟨some 33, _, _, _, _, some (6, false)⟩) (v := undef) rfl (by kernel_rfl) (by kernel_rfl) (by kernel_rfl) (fun _ _ _ h => h) (Or.inr ⟨by rfl, rfl⟩) (by assumption) ?_
  try simp only [Act.put, List.setIfInBounds_toArray, List.set_cons_zero, List.set_cons_succ]
  refine wpAnyH_take (i := 11) (oi := ⟨some 34, _, _, _, _, some (10, true)⟩) (v := undef) rfl (by kernel_rfl) (by kernel_rfl) (by kernel_rfl) (fun _ _ _ h => h) (Or.inr ⟨by rfl, rfl⟩) (by assumption) ?_
  try simp only [Act.put, List.setIfInBounds_toArray, List.set_cons_zero, List.set_cons_succ]
  refine wpAnyH_take (i := 12) (oi := ⟨some 35, _, _, _, _, some (10, true)⟩) (v := undef) rfl (by kernel_rfl) (by kernel_rfl) (by kernel_rfl) (fun _ _ _ h => h) (Or.inr ⟨by rfl, rfl⟩) (by assumption) ?_
  try simp only [Act.put, List.setIfInBounds_toArray, List.set_cons_zero, List.set_cons_succ]
  refine wpAnyH_take (i := 13) (oi := ⟨some 36, _, _, _, _, some (6, false)⟩) (v := undef) rfl (by kernel_rfl) (by kernel_rfl) (by kernel_rfl) (fun _ _ _ h => h) (Or.inr ⟨by rfl, rfl⟩) (by assumption) ?_
  try simp only [Act.put, List.setIfInBounds_toArray, List.set_cons_zero, List.set_cons_succ]
  refine wpAnyH_take (i := 14) (oi := ⟨some 37, _, _, _, _, some (6, false)⟩) (v := undef) rfl (by kernel_rfl) (by kernel_rfl) (by kernel_rfl) (fun _ _ _ h => h) (Or.inr ⟨by rfl, rfl⟩) (by assumption) ?_
  try simp only [Act.put, List.setIfInBounds_toArray, List.set_cons_zero, List.set_cons_succ]
  refine wpAnyH_take (i := 15) (oi := ⟨some 38, .pick (.tmp 29) (.const (.bool true)) (.tmp 37), _, _, _, none⟩) (v := ?_) rfl (by kernel_rfl) (by kernel_rfl) (by kernel_rfl) (fun _ _ _ h => h) (Or.inl ⟨by rfl, ?_⟩) (by assumption) ?_
  rotate_left
  · intro w hSw
    try dsimp only at hSw
    go_simp
    try with_reducible rfl
  try simp only [Act.put, List.setIfInBounds_toArray, List.set_cons_zero, List.set_cons_succ]
  refine wpAnyH_take (i := 16) (oi := ⟨some 39, .move (.tmp 38), _, _, _, none⟩) (v := ?_) rfl (by kernel_rfl) (by kernel_rfl) (by kernel_rfl) (fun _ _ _ h => h) (Or.inl ⟨by rfl, ?_⟩) (by assumption) ?_
  rotate_left
  · intro w hSw
    try dsimp only at hSw
    go_simp
    try with_reducible rfl
  try simp only [Act.put, List.setIfInBounds_toArray, List.set_cons_zero, List.set_cons_succ]
  refine wpAnyH_take (i := 17) (oi := ⟨some 40, _, _, _, _, some (16, false)⟩) (v := undef) rfl (by kernel_rfl) (by kernel_rfl) (by kernel_rfl) (fun _ _ _ h => h) (Or.inr ⟨by rfl, rfl⟩) (by assumption) ?_
  try simp only [Act.put, List.setIfInBounds_toArray, List.set_cons_zero, List.set_cons_succ]
  refine wpAnyH_take (i := 18) (oi := ⟨some 41, _, _, _, _, some (16, false)⟩) (v := undef) rfl (by kernel_rfl) (by kernel_rfl) (by kernel_rfl) (fun _ _ _ h => h) (Or.inr ⟨by rfl, rfl⟩) (by assumption) ?_
  try simp only [Act.put, List.setIfInBounds_toArray, List.set_cons_zero, List.set_cons_succ]
  refine wpAnyH_take (i := 19) (oi := ⟨some 42, .pick (.tmp 39) (.const (.bool true)) (.tmp 41), _, _, _, none⟩) (v := ?_) rfl (by kernel_rfl) (by kernel_rfl) (by kernel_rfl) (fun _ _ _ h => h) (Or.inl ⟨by rfl, ?_⟩) (by assumption) ?_
  rotate_left
  · intro w hSw
    try dsimp only at hSw
    go_simp
    try with_reducible rfl
  try simp only [Act.put, List.setIfInBounds_toArray, List.set_cons_zero, List.set_cons_succ]
  refine wpAnyH_take (i := 20) (oi := ⟨some 9, .assign (.tmp 42), _, _, _, none⟩) (v := ?_) rfl (by kernel_rfl) (by kernel_rfl) (by kernel_rfl) (fun _ _ _ h => h) (Or.inl ⟨by rfl, ?_⟩) (by assumption) ?_
  rotate_left
  · intro w hSw
    try dsimp only at hSw
    go_simp
    try with_reducible rfl
  try simp only [Act.put, List.setIfInBounds_toArray, List.set_cons_zero, List.set_cons_succ]
  refine wpAnyH_done (by kernel_rfl) ?_ _
  all_goals
    obtain ⟨c0, c1, c2, f0, f1, f2, hl⟩ := tg_res HD.out.b1
    have t0 := HD.out.b2.cell 0
    have t1 := HD.out.b2.cell 1
    have t2 := HD.out.b2.cell 2
    unfold tgC at t0 t1 t2
    simp at t0 t1 t2
    have HBE := Kp.mk (tgbel3 HD.out.bel (h := w.heap.size + 1) (by omega) (.int .i64 (1)) (.string ⟨#[]⟩) (.string s))
    go_wp2_with fail
    exact bodyPost_ret (v := .tuple #[.agg #[.int .i64 (1), .string ⟨#[]⟩, .string s], .int .i64 0]) (by simp [results, Tryd.results8, go_sem, c0, c1, c2, hl]) rfl ⟨rfl, HBE.out⟩
set_option maxRecDepth 100000 in
set_option maxHeartbeats 4000000 in
theorem tg_good_star (m s : ByteArray) (w : World) (hs : s.size ≤ 1000000) (hb : tgBad s = false) (hm : m ≠ tgCon) (h47 : bt s 0 ≠ 47) (h42 : s = ⟨#[42]⟩) (hmo : m = tgOpt) : Calls Tryd.prog 8 #[.string m, .string s] w (RetTg ⟨0, 4, ⟨#[]⟩, ⟨#[]⟩⟩ w) := by
  obtain ⟨h0, hv, hh, ha⟩ := tg_good hb
  obtain ⟨n1, n2⟩ := hs_nemp h0
  have HVI := Kp.mk (fun w => oct_visible_any s w (by unfold maxLen; omega))
  have HHA := Kp.mk (fun w => tg_hash_any s w)
  rw [hv] at HVI
  rw [hh] at HHA
  have X0 := Kp.mk (TgX.new s w)
  have HA := Kp.mk ha
  have hm1 : (m.toList == [67, 79, 78, 78, 69, 67, 84]) = false := by rw [← tgCon_z]; exact eq_no hm
  clear hm
  have hx := bt_at s 0 h0
  have hx2 : ((bt s 0 : Int) == 47) = false := by rw [beq_eq_false_iff_ne]; omega
  have hx3 : (0 : Int) < (s.size : Int) := by omega
  clear h47
  have hm2 : (m.toList == [79, 80, 84, 73, 79, 78, 83]) = true := by rw [hmo, tgOpt_z]; rfl
  have hs1 : (s.toList == [42]) = true := by rw [h42, tgStar_z]; rfl
  clear hmo h42
  clear hb hv hh ha
  go_enter Tryd.func8, Tryd.ntmps8
  go_wp2_with fail
  refine (HVI.out _).mono ?_
  rintro e w1 ⟨rfl, hb⟩
  have X1 := Kp.mk (X0.out.below hb)
  have d0 := X1.out.b0.cell 0
  clear hb
  simp at d0
  go_wp2_with fail
  refine (HHA.out _).mono ?_
  rintro e w2 ⟨rfl, rfl⟩
  have HM := Kp.mk X1.out.more
  clear d0
  go_wp2_with fail
  have HD := Kp.mk HM.out.drew
  refine wp_region_held_drew (S := fun w' => w'.cell? ⟨w.heap.size, 0, none⟩ = some (.string s) ∧ w'.cell? ⟨w1.heap.size + 1, 0, none⟩ = some (.func (.func 30) #[] #[.pointer (some ⟨w1.heap.size, 0, none⟩)])) (by kernel_rfl) HD.out.cells (fun hHeld => ?_)
  refine wpAnyH_take (i := 0) (oi := ⟨some 23, .load 52 (.tmp 7), _, _, _, none⟩) (v := ?_) rfl (by kernel_rfl) (by kernel_rfl) (by kernel_rfl) (fun _ _ _ h => h) (Or.inl ⟨by rfl, ?_⟩) (by assumption) ?_
  rotate_left
  · intro w hSw
    try dsimp only at hSw
    go_simp
    try with_reducible rfl
  try simp only [Act.put, List.setIfInBounds_toArray, List.set_cons_zero, List.set_cons_succ]
  refine wpAnyH_take (i := 1) (oi := ⟨some 24, .load 9 (.tmp 3), _, _, _, none⟩) (v := ?_) rfl (by kernel_rfl) (by kernel_rfl) (by kernel_rfl) (fun _ _ _ h => h) (Or.inl ⟨by rfl, ?_⟩) (by assumption) ?_
  rotate_left
  · intro w hSw
    try dsimp only at hSw
    go_simp
    try with_reducible rfl
  try simp only [Act.put, List.setIfInBounds_toArray, List.set_cons_zero, List.set_cons_succ]
  refine wpAnyH_take (i := 2) (oi := ⟨some 25, .index 9 (.tmp 24) (.const (.int .i64 0)), _, _, _, none⟩) (v := ?_) rfl (by kernel_rfl) (by kernel_rfl) (by kernel_rfl) (fun _ _ _ h => h) (Or.inl ⟨by rfl, ?_⟩) (by assumption) ?_
  rotate_left
  · intro w hSw
    try dsimp only at hSw
    go_simp
    try with_reducible rfl
  try simp only [Act.put, List.setIfInBounds_toArray, List.set_cons_zero, List.set_cons_succ]
  refine wpAnyH_take (i := 3) (oi := ⟨some 26, .binOp .eql 5 (.tmp 25) (.const (.int .u8 47)) 5, _, _, _, none⟩) (v := ?_) rfl (by kernel_rfl) (by kernel_rfl) (by kernel_rfl) (fun _ _ _ h => h) (Or.inl ⟨by rfl, ?_⟩) (by assumption) ?_
  rotate_left
  · intro w hSw
    try dsimp only at hSw
    go_simp
    try with_reducible rfl
  try simp only [Act.put, List.setIfInBounds_toArray, List.set_cons_zero, List.set_cons_succ]
  refine wpAnyH_take (i := 4) (oi := ⟨some 27, .load 9 (.tmp 3), _, _, _, none⟩) (v := ?_) rfl (by kernel_rfl) (by kernel_rfl) (by kernel_rfl) (fun _ _ _ h => h) (Or.inl ⟨by rfl, ?_⟩) (by assumption) ?_
  rotate_left
  · intro w hSw
    try dsimp only at hSw
    go_simp
    try with_reducible rfl
  try simp only [Act.put, List.setIfInBounds_toArray, List.set_cons_zero, List.set_cons_succ]
  refine wpAnyH_ready (rs := [5]) (by kernel_rfl) (by simp) ?_
  refine AllReadyH.cons (o := ⟨some 28, _, _, _, _, none⟩) rfl (fun K hK => ?_) AllReadyH.nil
  go_simp
  (go_at_call 30; (with_reducible refine (tg_take_no _ _ _ _ _ _ w _ HD.out).mono ?_); rintro e w99 ⟨rfl, h99⟩; replace HD := Kp.mk h99; clear h99)
  try go_wp2_with fail
  refine hK.out _ _ HD.out.cells (fun hHeld2 => ?_)
  clear hK K
  try simp only [Act.put, List.setIfInBounds_toArray, List.set_cons_zero, List.set_cons_succ]
  refine wpAnyH_take (i := 6) (oi := ⟨some 29, .move (.tmp 28), _, _, _, none⟩) (v := ?_) rfl (by kernel_rfl) (by kernel_rfl) (by kernel_rfl) (fun _ _ _ h => h) (Or.inl ⟨by rfl, ?_⟩) (by assumption) ?_
  rotate_left
  · intro w hSw
    try dsimp only at hSw
    go_simp
    try with_reducible rfl
  try simp only [Act.put, List.setIfInBounds_toArray, List.set_cons_zero, List.set_cons_succ]
  refine wpAnyH_take (i := 7) (oi := ⟨some 30, .load 52 (.tmp 7), _, _, _, some (6, false)⟩) (v := ?_) rfl (by kernel_rfl) (by kernel_rfl) (by kernel_rfl) (fun _ _ _ h => h) (Or.inl ⟨by rfl, ?_⟩) (by assumption) ?_
  rotate_left
  · intro w hSw
    try dsimp only at hSw
    go_simp
    try with_reducible rfl
  try simp only [Act.put, List.setIfInBounds_toArray, List.set_cons_zero, List.set_cons_succ]
  refine wpAnyH_take (i := 8) (oi := ⟨some 31, .load 9 (.tmp 3), _, _, _, some (6, false)⟩) (v := ?_) rfl (by kernel_rfl) (by kernel_rfl) (by kernel_rfl) (fun _ _ _ h => h) (Or.inl ⟨by rfl, ?_⟩) (by assumption) ?_
  rotate_left
  · intro w hSw
    try dsimp only at hSw
    go_simp
    try with_reducible rfl
  try simp only [Act.put, List.setIfInBounds_toArray, List.set_cons_zero, List.set_cons_succ]
  refine wpAnyH_take (i := 9) (oi := ⟨some 32, .binOp .eql 9 (.tmp 31) (.const (.string ⟨#[42]⟩)) 9, _, _, _, some (6, false)⟩) (v := ?_) rfl (by kernel_rfl) (by kernel_rfl) (by kernel_rfl) (fun _ _ _ h => h) (Or.inl ⟨by rfl, ?_⟩) (by assumption) ?_
  rotate_left
  · intro w hSw
    try dsimp only at hSw
    go_simp
    try with_reducible rfl
  try simp only [Act.put, List.setIfInBounds_toArray, List.set_cons_zero, List.set_cons_succ]
  refine wpAnyH_take (i := 10) (oi := ⟨some 33, .move (.tmp 32), _, _, _, some (6, false)⟩) (v := ?_) rfl (by kernel_rfl) (by kernel_rfl) (by kernel_rfl) (fun _ _ _ h => h) (Or.inl ⟨by rfl, ?_⟩) (by assumption) ?_
  rotate_left
  · intro w hSw
    try dsimp only at hSw
    go_simp
    try with_reducible rfl
  try simp only [Act.put, List.setIfInBounds_toArray, List.set_cons_zero, List.set_cons_succ]
  refine wpAnyH_take (i := 11) (oi := ⟨some 34, .move (.tmp 0), _, _, _, some (10, true)⟩) (v := ?_) rfl (by kernel_rfl) (by kernel_rfl) (by kernel_rfl) (fun _ _ _ h => h) (Or.inl ⟨by rfl, ?_⟩) (by assumption) ?_
  rotate_left
  · intro w hSw
    try dsimp only at hSw
    go_simp
    try with_reducible rfl
  try simp only [Act.put, List.setIfInBounds_toArray, List.set_cons_zero, List.set_cons_succ]
  refine wpAnyH_take (i := 12) (oi := ⟨some 35, .binOp .eql 9 (.tmp 34) (.const (.string ⟨#[79, 80, 84, 73, 79, 78, 83]⟩)) 9, _, _, _, some (10, true)⟩) (v := ?_) rfl (by kernel_rfl) (by kernel_rfl) (by kernel_rfl) (fun _ _ _ h => h) (Or.inl ⟨by rfl, ?_⟩) (by assumption) ?_
  rotate_left
  · intro w hSw
    try dsimp only at hSw
    go_simp
    try with_reducible rfl
  try simp only [Act.put, List.setIfInBounds_toArray, List.set_cons_zero, List.set_cons_succ]
  refine wpAnyH_take (i := 13) (oi := ⟨some 36, .pick (.tmp 33) (.tmp 35) (.const (.bool false)), _, _, _, some (6, false)⟩) (v := ?_) rfl (by kernel_rfl) (by kernel_rfl) (by kernel_rfl) (fun _ _ _ h => h) (Or.inl ⟨by rfl, ?_⟩) (by assumption) ?_
  rotate_left
  · intro w hSw
    try dsimp only at hSw
    go_simp
    try with_reducible rfl
  try simp only [Act.put, List.setIfInBounds_toArray, List.set_cons_zero, List.set_cons_succ]
  refine wpAnyH_ready (rs := [14]) (by kernel_rfl) (by simp) ?_
  refine AllReadyH.cons (o := ⟨some 37, _, _, _, _, some (6, false)⟩) rfl (fun K hK => ?_) AllReadyH.nil
  go_simp
  (go_at_call 30; (with_reducible refine (tg_take_yes _ _ _ _ _ _ _ _ w _ HD.out).mono ?_); rintro e w99 ⟨rfl, h99⟩; replace HD := Kp.mk h99; clear h99)
  try go_wp2_with fail
  refine hK.out _ _ HD.out.cells (fun hHeld2 => ?_)
  clear hK K
  try simp only [Act.put, List.setIfInBounds_toArray, List.set_cons_zero, List.set_cons_succ]
  refine wpAnyH_take (i := 15) (oi := ⟨some 38, .pick (.tmp 29) (.const (.bool true)) (.tmp 37), _, _, _, none⟩) (v := ?_) rfl (by kernel_rfl) (by kernel_rfl) (by kernel_rfl) (fun _ _ _ h => h) (Or.inl ⟨by rfl, ?_⟩) (by assumption) ?_
  rotate_left
  · intro w hSw
    try dsimp only at hSw
    go_simp
    try with_reducible rfl
  try simp only [Act.put, List.setIfInBounds_toArray, List.set_cons_zero, List.set_cons_succ]
  refine wpAnyH_take (i := 16) (oi := ⟨some 39, .move (.tmp 38), _, _, _, none⟩) (v := ?_) rfl (by kernel_rfl) (by kernel_rfl) (by kernel_rfl) (fun _ _ _ h => h) (Or.inl ⟨by rfl, ?_⟩) (by assumption) ?_
  rotate_left
  · intro w hSw
    try dsimp only at hSw
    go_simp
    try with_reducible rfl
  try simp only [Act.put, List.setIfInBounds_toArray, List.set_cons_zero, List.set_cons_succ]
  refine wpAnyH_take (i := 17) (oi := ⟨some 40, _, _, _, _, some (16, false)⟩) (v := undef) rfl (by kernel_rfl) (by kernel_rfl) (by kernel_rfl) (fun _ _ _ h => h) (Or.inr ⟨by rfl, rfl⟩) (by assumption) ?_
  try simp only [Act.put, List.setIfInBounds_toArray, List.set_cons_zero, List.set_cons_succ]
  refine wpAnyH_take (i := 18) (oi := ⟨some 41, _, _, _, _, some (16, false)⟩) (v := undef) rfl (by kernel_rfl) (by kernel_rfl) (by kernel_rfl) (fun _ _ _ h => h) (Or.inr ⟨by rfl, rfl⟩) (by assumption) ?_
  try simp only [Act.put, List.setIfInBounds_toArray, List.set_cons_zero, List.set_cons_succ]
  refine wpAnyH_take (i := 19) (oi := ⟨some 42, .pick (.tmp 39) (.const (.bool true)) (.tmp 41), _, _, _, none⟩) (v := ?_) rfl (by kernel_rfl) (by kernel_rfl) (by kernel_rfl) (fun _ _ _ h => h) (Or.inl ⟨by rfl, ?_⟩) (by assumption) ?_
  rotate_left
  · intro w hSw
    try dsimp only at hSw
    go_simp
    try with_reducible rfl
  try simp only [Act.put, List.setIfInBounds_toArray, List.set_cons_zero, List.set_cons_succ]
  refine wpAnyH_take (i := 20) (oi := ⟨some 9, .assign (.tmp 42), _, _, _, none⟩) (v := ?_) rfl (by kernel_rfl) (by kernel_rfl) (by kernel_rfl) (fun _ _ _ h => h) (Or.inl ⟨by rfl, ?_⟩) (by assumption) ?_
  rotate_left
  · intro w hSw
    try dsimp only at hSw
    go_simp
    try with_reducible rfl
  try simp only [Act.put, List.setIfInBounds_toArray, List.set_cons_zero, List.set_cons_succ]
  refine wpAnyH_done (by kernel_rfl) ?_ _
  all_goals
    obtain ⟨c0, c1, c2, f0, f1, f2, hl⟩ := tg_res HD.out.b1
    have t0 := HD.out.b2.cell 0
    have t1 := HD.out.b2.cell 1
    have t2 := HD.out.b2.cell 2
    unfold tgC at t0 t1 t2
    simp at t0 t1 t2
    have HBE := Kp.mk (tgbel3 HD.out.bel (h := w.heap.size + 1) (by omega) (.int .i64 (4)) (.string ⟨#[]⟩) (.string ⟨#[]⟩))
    go_wp2_with fail
    exact bodyPost_ret (v := .tuple #[.agg #[.int .i64 (4), .string ⟨#[]⟩, .string ⟨#[]⟩], .int .i64 0]) (by simp [results, Tryd.results8, go_sem, c0, c1, c2, hl]) rfl ⟨rfl, HBE.out⟩
set_option maxRecDepth 100000 in
set_option maxHeartbeats 4000000 in
theorem tg_good_abs (m s : ByteArray) (w : World) (hs : s.size ≤ 1000000) (hb : tgBad s = false) (hm : m ≠ tgCon) (h47 : bt s 0 ≠ 47) (h42 : s ≠ ⟨#[42]⟩) (hk : tgOkA s = true) : Calls Tryd.prog 8 #[.string m, .string s] w (RetTg ⟨0, 2, (tgAu s), (tgPa s)⟩ w) := by
  obtain ⟨h0, hv, hh, ha⟩ := tg_good hb
  obtain ⟨n1, n2⟩ := hs_nemp h0
  have HVI := Kp.mk (fun w => oct_visible_any s w (by unfold maxLen; omega))
  have HHA := Kp.mk (fun w => tg_hash_any s w)
  rw [hv] at HVI
  rw [hh] at HHA
  have X0 := Kp.mk (TgX.new s w)
  have HA := Kp.mk ha
  have hm1 : (m.toList == [67, 79, 78, 78, 69, 67, 84]) = false := by rw [← tgCon_z]; exact eq_no hm
  clear hm
  have hx := bt_at s 0 h0
  have hx2 : ((bt s 0 : Int) == 47) = false := by rw [beq_eq_false_iff_ne]; omega
  have hx3 : (0 : Int) < (s.size : Int) := by omega
  clear h47
  have hs1 : (s.toList == [42]) = false := by rw [← tgStar_z]; exact eq_no h42
  clear h42
  have HPL := Kp.mk (fun q W (h : TgW s (tgC 0 ⟨#[]⟩ ⟨#[]⟩) q w W) => tg_placed_any s 0 ⟨#[]⟩ ⟨#[]⟩ q w W h hs ha)
  rw [hk] at HPL
  rw [if_pos rfl] at HPL
  clear hk
  generalize tgAu s = AU at *
  generalize tgPa s = PA at *
  clear hb hv hh ha
  go_enter Tryd.func8, Tryd.ntmps8
  go_wp2_with fail
  refine (HVI.out _).mono ?_
  rintro e w1 ⟨rfl, hb⟩
  have X1 := Kp.mk (X0.out.below hb)
  have d0 := X1.out.b0.cell 0
  clear hb
  simp at d0
  go_wp2_with fail
  refine (HHA.out _).mono ?_
  rintro e w2 ⟨rfl, rfl⟩
  have HM := Kp.mk X1.out.more
  clear d0
  go_wp2_with fail
  have HD := Kp.mk HM.out.drew
  refine wp_region_held_drew (S := fun w' => w'.cell? ⟨w.heap.size, 0, none⟩ = some (.string s) ∧ w'.cell? ⟨w1.heap.size + 1, 0, none⟩ = some (.func (.func 30) #[] #[.pointer (some ⟨w1.heap.size, 0, none⟩)])) (by kernel_rfl) HD.out.cells (fun hHeld => ?_)
  refine wpAnyH_take (i := 0) (oi := ⟨some 23, .load 52 (.tmp 7), _, _, _, none⟩) (v := ?_) rfl (by kernel_rfl) (by kernel_rfl) (by kernel_rfl) (fun _ _ _ h => h) (Or.inl ⟨by rfl, ?_⟩) (by assumption) ?_
  rotate_left
  · intro w hSw
    try dsimp only at hSw
    go_simp
    try with_reducible rfl
  try simp only [Act.put, List.setIfInBounds_toArray, List.set_cons_zero, List.set_cons_succ]
  refine wpAnyH_take (i := 1) (oi := ⟨some 24, .load 9 (.tmp 3), _, _, _, none⟩) (v := ?_) rfl (by kernel_rfl) (by kernel_rfl) (by kernel_rfl) (fun _ _ _ h => h) (Or.inl ⟨by rfl, ?_⟩) (by assumption) ?_
  rotate_left
  · intro w hSw
    try dsimp only at hSw
    go_simp
    try with_reducible rfl
  try simp only [Act.put, List.setIfInBounds_toArray, List.set_cons_zero, List.set_cons_succ]
  refine wpAnyH_take (i := 2) (oi := ⟨some 25, .index 9 (.tmp 24) (.const (.int .i64 0)), _, _, _, none⟩) (v := ?_) rfl (by kernel_rfl) (by kernel_rfl) (by kernel_rfl) (fun _ _ _ h => h) (Or.inl ⟨by rfl, ?_⟩) (by assumption) ?_
  rotate_left
  · intro w hSw
    try dsimp only at hSw
    go_simp
    try with_reducible rfl
  try simp only [Act.put, List.setIfInBounds_toArray, List.set_cons_zero, List.set_cons_succ]
  refine wpAnyH_take (i := 3) (oi := ⟨some 26, .binOp .eql 5 (.tmp 25) (.const (.int .u8 47)) 5, _, _, _, none⟩) (v := ?_) rfl (by kernel_rfl) (by kernel_rfl) (by kernel_rfl) (fun _ _ _ h => h) (Or.inl ⟨by rfl, ?_⟩) (by assumption) ?_
  rotate_left
  · intro w hSw
    try dsimp only at hSw
    go_simp
    try with_reducible rfl
  try simp only [Act.put, List.setIfInBounds_toArray, List.set_cons_zero, List.set_cons_succ]
  refine wpAnyH_take (i := 4) (oi := ⟨some 27, .load 9 (.tmp 3), _, _, _, none⟩) (v := ?_) rfl (by kernel_rfl) (by kernel_rfl) (by kernel_rfl) (fun _ _ _ h => h) (Or.inl ⟨by rfl, ?_⟩) (by assumption) ?_
  rotate_left
  · intro w hSw
    try dsimp only at hSw
    go_simp
    try with_reducible rfl
  try simp only [Act.put, List.setIfInBounds_toArray, List.set_cons_zero, List.set_cons_succ]
  refine wpAnyH_ready (rs := [5]) (by kernel_rfl) (by simp) ?_
  refine AllReadyH.cons (o := ⟨some 28, _, _, _, _, none⟩) rfl (fun K hK => ?_) AllReadyH.nil
  go_simp
  (go_at_call 30; (with_reducible refine (tg_take_no _ _ _ _ _ _ w _ HD.out).mono ?_); rintro e w99 ⟨rfl, h99⟩; replace HD := Kp.mk h99; clear h99)
  try go_wp2_with fail
  refine hK.out _ _ HD.out.cells (fun hHeld2 => ?_)
  clear hK K
  try simp only [Act.put, List.setIfInBounds_toArray, List.set_cons_zero, List.set_cons_succ]
  refine wpAnyH_take (i := 6) (oi := ⟨some 29, .move (.tmp 28), _, _, _, none⟩) (v := ?_) rfl (by kernel_rfl) (by kernel_rfl) (by kernel_rfl) (fun _ _ _ h => h) (Or.inl ⟨by rfl, ?_⟩) (by assumption) ?_
  rotate_left
  · intro w hSw
    try dsimp only at hSw
    go_simp
    try with_reducible rfl
  try simp only [Act.put, List.setIfInBounds_toArray, List.set_cons_zero, List.set_cons_succ]
  refine wpAnyH_take (i := 7) (oi := ⟨some 30, .load 52 (.tmp 7), _, _, _, some (6, false)⟩) (v := ?_) rfl (by kernel_rfl) (by kernel_rfl) (by kernel_rfl) (fun _ _ _ h => h) (Or.inl ⟨by rfl, ?_⟩) (by assumption) ?_
  rotate_left
  · intro w hSw
    try dsimp only at hSw
    go_simp
    try with_reducible rfl
  try simp only [Act.put, List.setIfInBounds_toArray, List.set_cons_zero, List.set_cons_succ]
  refine wpAnyH_take (i := 8) (oi := ⟨some 31, .load 9 (.tmp 3), _, _, _, some (6, false)⟩) (v := ?_) rfl (by kernel_rfl) (by kernel_rfl) (by kernel_rfl) (fun _ _ _ h => h) (Or.inl ⟨by rfl, ?_⟩) (by assumption) ?_
  rotate_left
  · intro w hSw
    try dsimp only at hSw
    go_simp
    try with_reducible rfl
  try simp only [Act.put, List.setIfInBounds_toArray, List.set_cons_zero, List.set_cons_succ]
  refine wpAnyH_take (i := 9) (oi := ⟨some 32, .binOp .eql 9 (.tmp 31) (.const (.string ⟨#[42]⟩)) 9, _, _, _, some (6, false)⟩) (v := ?_) rfl (by kernel_rfl) (by kernel_rfl) (by kernel_rfl) (fun _ _ _ h => h) (Or.inl ⟨by rfl, ?_⟩) (by assumption) ?_
  rotate_left
  · intro w hSw
    try dsimp only at hSw
    go_simp
    try with_reducible rfl
  try simp only [Act.put, List.setIfInBounds_toArray, List.set_cons_zero, List.set_cons_succ]
  refine wpAnyH_take (i := 10) (oi := ⟨some 33, .move (.tmp 32), _, _, _, some (6, false)⟩) (v := ?_) rfl (by kernel_rfl) (by kernel_rfl) (by kernel_rfl) (fun _ _ _ h => h) (Or.inl ⟨by rfl, ?_⟩) (by assumption) ?_
  rotate_left
  · intro w hSw
    try dsimp only at hSw
    go_simp
    try with_reducible rfl
  try simp only [Act.put, List.setIfInBounds_toArray, List.set_cons_zero, List.set_cons_succ]
  refine wpAnyH_take (i := 11) (oi := ⟨some 34, _, _, _, _, some (10, true)⟩) (v := undef) rfl (by kernel_rfl) (by kernel_rfl) (by kernel_rfl) (fun _ _ _ h => h) (Or.inr ⟨by rfl, rfl⟩) (by assumption) ?_
  try simp only [Act.put, List.setIfInBounds_toArray, List.set_cons_zero, List.set_cons_succ]
  refine wpAnyH_take (i := 12) (oi := ⟨some 35, _, _, _, _, some (10, true)⟩) (v := undef) rfl (by kernel_rfl) (by kernel_rfl) (by kernel_rfl) (fun _ _ _ h => h) (Or.inr ⟨by rfl, rfl⟩) (by assumption) ?_
  try simp only [Act.put, List.setIfInBounds_toArray, List.set_cons_zero, List.set_cons_succ]
  refine wpAnyH_take (i := 13) (oi := ⟨some 36, .pick (.tmp 33) (.tmp 35) (.const (.bool false)), _, _, _, some (6, false)⟩) (v := ?_) rfl (by kernel_rfl) (by kernel_rfl) (by kernel_rfl) (fun _ _ _ h => h) (Or.inl ⟨by rfl, ?_⟩) (by assumption) ?_
  rotate_left
  · intro w hSw
    try dsimp only at hSw
    go_simp
    try with_reducible rfl
  try simp only [Act.put, List.setIfInBounds_toArray, List.set_cons_zero, List.set_cons_succ]
  refine wpAnyH_ready (rs := [14]) (by kernel_rfl) (by simp) ?_
  refine AllReadyH.cons (o := ⟨some 37, _, _, _, _, some (6, false)⟩) rfl (fun K hK => ?_) AllReadyH.nil
  go_simp
  (go_at_call 30; (with_reducible refine (tg_take_no _ _ _ _ _ _ w _ HD.out).mono ?_); rintro e w99 ⟨rfl, h99⟩; replace HD := Kp.mk h99; clear h99)
  try go_wp2_with fail
  refine hK.out _ _ HD.out.cells (fun hHeld2 => ?_)
  clear hK K
  try simp only [Act.put, List.setIfInBounds_toArray, List.set_cons_zero, List.set_cons_succ]
  refine wpAnyH_take (i := 15) (oi := ⟨some 38, .pick (.tmp 29) (.const (.bool true)) (.tmp 37), _, _, _, none⟩) (v := ?_) rfl (by kernel_rfl) (by kernel_rfl) (by kernel_rfl) (fun _ _ _ h => h) (Or.inl ⟨by rfl, ?_⟩) (by assumption) ?_
  rotate_left
  · intro w hSw
    try dsimp only at hSw
    go_simp
    try with_reducible rfl
  try simp only [Act.put, List.setIfInBounds_toArray, List.set_cons_zero, List.set_cons_succ]
  refine wpAnyH_take (i := 16) (oi := ⟨some 39, .move (.tmp 38), _, _, _, none⟩) (v := ?_) rfl (by kernel_rfl) (by kernel_rfl) (by kernel_rfl) (fun _ _ _ h => h) (Or.inl ⟨by rfl, ?_⟩) (by assumption) ?_
  rotate_left
  · intro w hSw
    try dsimp only at hSw
    go_simp
    try with_reducible rfl
  try simp only [Act.put, List.setIfInBounds_toArray, List.set_cons_zero, List.set_cons_succ]
  refine wpAnyH_take (i := 17) (oi := ⟨some 40, .move (.tmp 8), _, _, _, some (16, false)⟩) (v := ?_) rfl (by kernel_rfl) (by kernel_rfl) (by kernel_rfl) (fun _ _ _ h => h) (Or.inl ⟨by rfl, ?_⟩) (by assumption) ?_
  rotate_left
  · intro w hSw
    try dsimp only at hSw
    go_simp
    try with_reducible rfl
  try simp only [Act.put, List.setIfInBounds_toArray, List.set_cons_zero, List.set_cons_succ]
  refine wpAnyH_ready (rs := [18]) (by kernel_rfl) (by simp) ?_
  refine AllReadyH.cons (o := ⟨some 41, _, _, _, _, some (16, false)⟩) rfl (fun K hK => ?_) AllReadyH.nil
  go_simp
  (go_at_call 31; refine (HPL.out _ _ HD.out).mono ?_; rintro e w99 ⟨rfl, h99⟩; replace HD := Kp.mk h99; clear h99)
  try go_wp2_with fail
  refine hK.out _ _ HD.out.cells (fun hHeld2 => ?_)
  clear hK K
  try simp only [Act.put, List.setIfInBounds_toArray, List.set_cons_zero, List.set_cons_succ]
  refine wpAnyH_take (i := 19) (oi := ⟨some 42, .pick (.tmp 39) (.const (.bool true)) (.tmp 41), _, _, _, none⟩) (v := ?_) rfl (by kernel_rfl) (by kernel_rfl) (by kernel_rfl) (fun _ _ _ h => h) (Or.inl ⟨by rfl, ?_⟩) (by assumption) ?_
  rotate_left
  · intro w hSw
    try dsimp only at hSw
    go_simp
    try with_reducible rfl
  try simp only [Act.put, List.setIfInBounds_toArray, List.set_cons_zero, List.set_cons_succ]
  refine wpAnyH_take (i := 20) (oi := ⟨some 9, .assign (.tmp 42), _, _, _, none⟩) (v := ?_) rfl (by kernel_rfl) (by kernel_rfl) (by kernel_rfl) (fun _ _ _ h => h) (Or.inl ⟨by rfl, ?_⟩) (by assumption) ?_
  rotate_left
  · intro w hSw
    try dsimp only at hSw
    go_simp
    try with_reducible rfl
  try simp only [Act.put, List.setIfInBounds_toArray, List.set_cons_zero, List.set_cons_succ]
  refine wpAnyH_done (by kernel_rfl) ?_ _
  all_goals
    obtain ⟨c0, c1, c2, f0, f1, f2, hl⟩ := tg_res HD.out.b1
    have t0 := HD.out.b2.cell 0
    have t1 := HD.out.b2.cell 1
    have t2 := HD.out.b2.cell 2
    unfold tgC at t0 t1 t2
    simp at t0 t1 t2
    have HBE := Kp.mk (tgbel3 HD.out.bel (h := w.heap.size + 1) (by omega) (.int .i64 (2)) (.string AU) (.string PA))
    go_wp2_with fail
    exact bodyPost_ret (v := .tuple #[.agg #[.int .i64 (2), .string AU, .string PA], .int .i64 0]) (by simp [results, Tryd.results8, go_sem, c0, c1, c2, hl]) rfl ⟨rfl, HBE.out⟩
set_option maxRecDepth 100000 in
set_option maxHeartbeats 4000000 in
theorem tg_good_no (m s : ByteArray) (w : World) (hs : s.size ≤ 1000000) (hb : tgBad s = false) (hm : m ≠ tgCon) (h47 : bt s 0 ≠ 47) (h42 : s ≠ ⟨#[42]⟩) (hk : tgOkA s = false) : Calls Tryd.prog 8 #[.string m, .string s] w (RetTg ⟨11, 0, ⟨#[]⟩, ⟨#[]⟩⟩ w) := by
  obtain ⟨h0, hv, hh, ha⟩ := tg_good hb
  obtain ⟨n1, n2⟩ := hs_nemp h0
  have HVI := Kp.mk (fun w => oct_visible_any s w (by unfold maxLen; omega))
  have HHA := Kp.mk (fun w => tg_hash_any s w)
  rw [hv] at HVI
  rw [hh] at HHA
  have X0 := Kp.mk (TgX.new s w)
  have HA := Kp.mk ha
  have hm1 : (m.toList == [67, 79, 78, 78, 69, 67, 84]) = false := by rw [← tgCon_z]; exact eq_no hm
  clear hm
  have hx := bt_at s 0 h0
  have hx2 : ((bt s 0 : Int) == 47) = false := by rw [beq_eq_false_iff_ne]; omega
  have hx3 : (0 : Int) < (s.size : Int) := by omega
  clear h47
  have hs1 : (s.toList == [42]) = false := by rw [← tgStar_z]; exact eq_no h42
  clear h42
  have HPL := Kp.mk (fun q W (h : TgW s (tgC 0 ⟨#[]⟩ ⟨#[]⟩) q w W) => tg_placed_any s 0 ⟨#[]⟩ ⟨#[]⟩ q w W h hs ha)
  rw [hk] at HPL
  rw [if_neg (by simp)] at HPL
  clear hk
  clear hb hv hh ha
  go_enter Tryd.func8, Tryd.ntmps8
  go_wp2_with fail
  refine (HVI.out _).mono ?_
  rintro e w1 ⟨rfl, hb⟩
  have X1 := Kp.mk (X0.out.below hb)
  have d0 := X1.out.b0.cell 0
  clear hb
  simp at d0
  go_wp2_with fail
  refine (HHA.out _).mono ?_
  rintro e w2 ⟨rfl, rfl⟩
  have HM := Kp.mk X1.out.more
  clear d0
  go_wp2_with fail
  have HD := Kp.mk HM.out.drew
  refine wp_region_held_drew (S := fun w' => w'.cell? ⟨w.heap.size, 0, none⟩ = some (.string s) ∧ w'.cell? ⟨w1.heap.size + 1, 0, none⟩ = some (.func (.func 30) #[] #[.pointer (some ⟨w1.heap.size, 0, none⟩)])) (by kernel_rfl) HD.out.cells (fun hHeld => ?_)
  refine wpAnyH_take (i := 0) (oi := ⟨some 23, .load 52 (.tmp 7), _, _, _, none⟩) (v := ?_) rfl (by kernel_rfl) (by kernel_rfl) (by kernel_rfl) (fun _ _ _ h => h) (Or.inl ⟨by rfl, ?_⟩) (by assumption) ?_
  rotate_left
  · intro w hSw
    try dsimp only at hSw
    go_simp
    try with_reducible rfl
  try simp only [Act.put, List.setIfInBounds_toArray, List.set_cons_zero, List.set_cons_succ]
  refine wpAnyH_take (i := 1) (oi := ⟨some 24, .load 9 (.tmp 3), _, _, _, none⟩) (v := ?_) rfl (by kernel_rfl) (by kernel_rfl) (by kernel_rfl) (fun _ _ _ h => h) (Or.inl ⟨by rfl, ?_⟩) (by assumption) ?_
  rotate_left
  · intro w hSw
    try dsimp only at hSw
    go_simp
    try with_reducible rfl
  try simp only [Act.put, List.setIfInBounds_toArray, List.set_cons_zero, List.set_cons_succ]
  refine wpAnyH_take (i := 2) (oi := ⟨some 25, .index 9 (.tmp 24) (.const (.int .i64 0)), _, _, _, none⟩) (v := ?_) rfl (by kernel_rfl) (by kernel_rfl) (by kernel_rfl) (fun _ _ _ h => h) (Or.inl ⟨by rfl, ?_⟩) (by assumption) ?_
  rotate_left
  · intro w hSw
    try dsimp only at hSw
    go_simp
    try with_reducible rfl
  try simp only [Act.put, List.setIfInBounds_toArray, List.set_cons_zero, List.set_cons_succ]
  refine wpAnyH_take (i := 3) (oi := ⟨some 26, .binOp .eql 5 (.tmp 25) (.const (.int .u8 47)) 5, _, _, _, none⟩) (v := ?_) rfl (by kernel_rfl) (by kernel_rfl) (by kernel_rfl) (fun _ _ _ h => h) (Or.inl ⟨by rfl, ?_⟩) (by assumption) ?_
  rotate_left
  · intro w hSw
    try dsimp only at hSw
    go_simp
    try with_reducible rfl
  try simp only [Act.put, List.setIfInBounds_toArray, List.set_cons_zero, List.set_cons_succ]
  refine wpAnyH_take (i := 4) (oi := ⟨some 27, .load 9 (.tmp 3), _, _, _, none⟩) (v := ?_) rfl (by kernel_rfl) (by kernel_rfl) (by kernel_rfl) (fun _ _ _ h => h) (Or.inl ⟨by rfl, ?_⟩) (by assumption) ?_
  rotate_left
  · intro w hSw
    try dsimp only at hSw
    go_simp
    try with_reducible rfl
  try simp only [Act.put, List.setIfInBounds_toArray, List.set_cons_zero, List.set_cons_succ]
  refine wpAnyH_ready (rs := [5]) (by kernel_rfl) (by simp) ?_
  refine AllReadyH.cons (o := ⟨some 28, _, _, _, _, none⟩) rfl (fun K hK => ?_) AllReadyH.nil
  go_simp
  (go_at_call 30; (with_reducible refine (tg_take_no _ _ _ _ _ _ w _ HD.out).mono ?_); rintro e w99 ⟨rfl, h99⟩; replace HD := Kp.mk h99; clear h99)
  try go_wp2_with fail
  refine hK.out _ _ HD.out.cells (fun hHeld2 => ?_)
  clear hK K
  try simp only [Act.put, List.setIfInBounds_toArray, List.set_cons_zero, List.set_cons_succ]
  refine wpAnyH_take (i := 6) (oi := ⟨some 29, .move (.tmp 28), _, _, _, none⟩) (v := ?_) rfl (by kernel_rfl) (by kernel_rfl) (by kernel_rfl) (fun _ _ _ h => h) (Or.inl ⟨by rfl, ?_⟩) (by assumption) ?_
  rotate_left
  · intro w hSw
    try dsimp only at hSw
    go_simp
    try with_reducible rfl
  try simp only [Act.put, List.setIfInBounds_toArray, List.set_cons_zero, List.set_cons_succ]
  refine wpAnyH_take (i := 7) (oi := ⟨some 30, .load 52 (.tmp 7), _, _, _, some (6, false)⟩) (v := ?_) rfl (by kernel_rfl) (by kernel_rfl) (by kernel_rfl) (fun _ _ _ h => h) (Or.inl ⟨by rfl, ?_⟩) (by assumption) ?_
  rotate_left
  · intro w hSw
    try dsimp only at hSw
    go_simp
    try with_reducible rfl
  try simp only [Act.put, List.setIfInBounds_toArray, List.set_cons_zero, List.set_cons_succ]
  refine wpAnyH_take (i := 8) (oi := ⟨some 31, .load 9 (.tmp 3), _, _, _, some (6, false)⟩) (v := ?_) rfl (by kernel_rfl) (by kernel_rfl) (by kernel_rfl) (fun _ _ _ h => h) (Or.inl ⟨by rfl, ?_⟩) (by assumption) ?_
  rotate_left
  · intro w hSw
    try dsimp only at hSw
    go_simp
    try with_reducible rfl
  try simp only [Act.put, List.setIfInBounds_toArray, List.set_cons_zero, List.set_cons_succ]
  refine wpAnyH_take (i := 9) (oi := ⟨some 32, .binOp .eql 9 (.tmp 31) (.const (.string ⟨#[42]⟩)) 9, _, _, _, some (6, false)⟩) (v := ?_) rfl (by kernel_rfl) (by kernel_rfl) (by kernel_rfl) (fun _ _ _ h => h) (Or.inl ⟨by rfl, ?_⟩) (by assumption) ?_
  rotate_left
  · intro w hSw
    try dsimp only at hSw
    go_simp
    try with_reducible rfl
  try simp only [Act.put, List.setIfInBounds_toArray, List.set_cons_zero, List.set_cons_succ]
  refine wpAnyH_take (i := 10) (oi := ⟨some 33, .move (.tmp 32), _, _, _, some (6, false)⟩) (v := ?_) rfl (by kernel_rfl) (by kernel_rfl) (by kernel_rfl) (fun _ _ _ h => h) (Or.inl ⟨by rfl, ?_⟩) (by assumption) ?_
  rotate_left
  · intro w hSw
    try dsimp only at hSw
    go_simp
    try with_reducible rfl
  try simp only [Act.put, List.setIfInBounds_toArray, List.set_cons_zero, List.set_cons_succ]
  refine wpAnyH_take (i := 11) (oi := ⟨some 34, _, _, _, _, some (10, true)⟩) (v := undef) rfl (by kernel_rfl) (by kernel_rfl) (by kernel_rfl) (fun _ _ _ h => h) (Or.inr ⟨by rfl, rfl⟩) (by assumption) ?_
  try simp only [Act.put, List.setIfInBounds_toArray, List.set_cons_zero, List.set_cons_succ]
  refine wpAnyH_take (i := 12) (oi := ⟨some 35, _, _, _, _, some (10, true)⟩) (v := undef) rfl (by kernel_rfl) (by kernel_rfl) (by kernel_rfl) (fun _ _ _ h => h) (Or.inr ⟨by rfl, rfl⟩) (by assumption) ?_
  try simp only [Act.put, List.setIfInBounds_toArray, List.set_cons_zero, List.set_cons_succ]
  refine wpAnyH_take (i := 13) (oi := ⟨some 36, .pick (.tmp 33) (.tmp 35) (.const (.bool false)), _, _, _, some (6, false)⟩) (v := ?_) rfl (by kernel_rfl) (by kernel_rfl) (by kernel_rfl) (fun _ _ _ h => h) (Or.inl ⟨by rfl, ?_⟩) (by assumption) ?_
  rotate_left
  · intro w hSw
    try dsimp only at hSw
    go_simp
    try with_reducible rfl
  try simp only [Act.put, List.setIfInBounds_toArray, List.set_cons_zero, List.set_cons_succ]
  refine wpAnyH_ready (rs := [14]) (by kernel_rfl) (by simp) ?_
  refine AllReadyH.cons (o := ⟨some 37, _, _, _, _, some (6, false)⟩) rfl (fun K hK => ?_) AllReadyH.nil
  go_simp
  (go_at_call 30; (with_reducible refine (tg_take_no _ _ _ _ _ _ w _ HD.out).mono ?_); rintro e w99 ⟨rfl, h99⟩; replace HD := Kp.mk h99; clear h99)
  try go_wp2_with fail
  refine hK.out _ _ HD.out.cells (fun hHeld2 => ?_)
  clear hK K
  try simp only [Act.put, List.setIfInBounds_toArray, List.set_cons_zero, List.set_cons_succ]
  refine wpAnyH_take (i := 15) (oi := ⟨some 38, .pick (.tmp 29) (.const (.bool true)) (.tmp 37), _, _, _, none⟩) (v := ?_) rfl (by kernel_rfl) (by kernel_rfl) (by kernel_rfl) (fun _ _ _ h => h) (Or.inl ⟨by rfl, ?_⟩) (by assumption) ?_
  rotate_left
  · intro w hSw
    try dsimp only at hSw
    go_simp
    try with_reducible rfl
  try simp only [Act.put, List.setIfInBounds_toArray, List.set_cons_zero, List.set_cons_succ]
  refine wpAnyH_take (i := 16) (oi := ⟨some 39, .move (.tmp 38), _, _, _, none⟩) (v := ?_) rfl (by kernel_rfl) (by kernel_rfl) (by kernel_rfl) (fun _ _ _ h => h) (Or.inl ⟨by rfl, ?_⟩) (by assumption) ?_
  rotate_left
  · intro w hSw
    try dsimp only at hSw
    go_simp
    try with_reducible rfl
  try simp only [Act.put, List.setIfInBounds_toArray, List.set_cons_zero, List.set_cons_succ]
  refine wpAnyH_take (i := 17) (oi := ⟨some 40, .move (.tmp 8), _, _, _, some (16, false)⟩) (v := ?_) rfl (by kernel_rfl) (by kernel_rfl) (by kernel_rfl) (fun _ _ _ h => h) (Or.inl ⟨by rfl, ?_⟩) (by assumption) ?_
  rotate_left
  · intro w hSw
    try dsimp only at hSw
    go_simp
    try with_reducible rfl
  try simp only [Act.put, List.setIfInBounds_toArray, List.set_cons_zero, List.set_cons_succ]
  refine wpAnyH_ready (rs := [18]) (by kernel_rfl) (by simp) ?_
  refine AllReadyH.cons (o := ⟨some 41, _, _, _, _, some (16, false)⟩) rfl (fun K hK => ?_) AllReadyH.nil
  go_simp
  (go_at_call 31; refine (HPL.out _ _ HD.out).mono ?_; rintro e w99 ⟨rfl, h99⟩; replace HD := Kp.mk h99; clear h99)
  try go_wp2_with fail
  refine hK.out _ _ HD.out.cells (fun hHeld2 => ?_)
  clear hK K
  try simp only [Act.put, List.setIfInBounds_toArray, List.set_cons_zero, List.set_cons_succ]
  refine wpAnyH_take (i := 19) (oi := ⟨some 42, .pick (.tmp 39) (.const (.bool true)) (.tmp 41), _, _, _, none⟩) (v := ?_) rfl (by kernel_rfl) (by kernel_rfl) (by kernel_rfl) (fun _ _ _ h => h) (Or.inl ⟨by rfl, ?_⟩) (by assumption) ?_
  rotate_left
  · intro w hSw
    try dsimp only at hSw
    go_simp
    try with_reducible rfl
  try simp only [Act.put, List.setIfInBounds_toArray, List.set_cons_zero, List.set_cons_succ]
  refine wpAnyH_take (i := 20) (oi := ⟨some 9, .assign (.tmp 42), _, _, _, none⟩) (v := ?_) rfl (by kernel_rfl) (by kernel_rfl) (by kernel_rfl) (fun _ _ _ h => h) (Or.inl ⟨by rfl, ?_⟩) (by assumption) ?_
  rotate_left
  · intro w hSw
    try dsimp only at hSw
    go_simp
    try with_reducible rfl
  try simp only [Act.put, List.setIfInBounds_toArray, List.set_cons_zero, List.set_cons_succ]
  refine wpAnyH_done (by kernel_rfl) ?_ _
  all_goals
    obtain ⟨c0, c1, c2, f0, f1, f2, hl⟩ := tg_res HD.out.b1
    have t0 := HD.out.b2.cell 0
    have t1 := HD.out.b2.cell 1
    have t2 := HD.out.b2.cell 2
    unfold tgC at t0 t1 t2
    simp at t0 t1 t2
    have HBE := Kp.mk (tgbel3 HD.out.bel (h := w.heap.size + 1) (by omega) (.int .i64 (0)) (.string ⟨#[]⟩) (.string ⟨#[]⟩))
    go_wp2_with fail
    exact bodyPost_ret (v := .tuple #[.agg #[.int .i64 (0), .string ⟨#[]⟩, .string ⟨#[]⟩], .int .i64 11]) (by simp [results, Tryd.results8, go_sem, c0, c1, c2, hl]) rfl ⟨rfl, HBE.out⟩
set_option maxRecDepth 100000 in
set_option maxHeartbeats 4000000 in
theorem tg_good_no2 (m s : ByteArray) (w : World) (hs : s.size ≤ 1000000) (hb : tgBad s = false) (hm : m ≠ tgCon) (h47 : bt s 0 ≠ 47) (h42 : s = ⟨#[42]⟩) (hmo : m ≠ tgOpt) (hk : tgOkA s = false) : Calls Tryd.prog 8 #[.string m, .string s] w (RetTg ⟨11, 0, ⟨#[]⟩, ⟨#[]⟩⟩ w) := by
  obtain ⟨h0, hv, hh, ha⟩ := tg_good hb
  obtain ⟨n1, n2⟩ := hs_nemp h0
  have HVI := Kp.mk (fun w => oct_visible_any s w (by unfold maxLen; omega))
  have HHA := Kp.mk (fun w => tg_hash_any s w)
  rw [hv] at HVI
  rw [hh] at HHA
  have X0 := Kp.mk (TgX.new s w)
  have HA := Kp.mk ha
  have hm1 : (m.toList == [67, 79, 78, 78, 69, 67, 84]) = false := by rw [← tgCon_z]; exact eq_no hm
  clear hm
  have hx := bt_at s 0 h0
  have hx2 : ((bt s 0 : Int) == 47) = false := by rw [beq_eq_false_iff_ne]; omega
  have hx3 : (0 : Int) < (s.size : Int) := by omega
  clear h47
  have hm2 : (m.toList == [79, 80, 84, 73, 79, 78, 83]) = false := by rw [← tgOpt_z]; exact eq_no hmo
  have hs1 : (s.toList == [42]) = true := by rw [h42, tgStar_z]; rfl
  clear hmo h42
  have HPL := Kp.mk (fun q W (h : TgW s (tgC 0 ⟨#[]⟩ ⟨#[]⟩) q w W) => tg_placed_any s 0 ⟨#[]⟩ ⟨#[]⟩ q w W h hs ha)
  rw [hk] at HPL
  rw [if_neg (by simp)] at HPL
  clear hk
  clear hb hv hh ha
  go_enter Tryd.func8, Tryd.ntmps8
  go_wp2_with fail
  refine (HVI.out _).mono ?_
  rintro e w1 ⟨rfl, hb⟩
  have X1 := Kp.mk (X0.out.below hb)
  have d0 := X1.out.b0.cell 0
  clear hb
  simp at d0
  go_wp2_with fail
  refine (HHA.out _).mono ?_
  rintro e w2 ⟨rfl, rfl⟩
  have HM := Kp.mk X1.out.more
  clear d0
  go_wp2_with fail
  have HD := Kp.mk HM.out.drew
  refine wp_region_held_drew (S := fun w' => w'.cell? ⟨w.heap.size, 0, none⟩ = some (.string s) ∧ w'.cell? ⟨w1.heap.size + 1, 0, none⟩ = some (.func (.func 30) #[] #[.pointer (some ⟨w1.heap.size, 0, none⟩)])) (by kernel_rfl) HD.out.cells (fun hHeld => ?_)
  refine wpAnyH_take (i := 0) (oi := ⟨some 23, .load 52 (.tmp 7), _, _, _, none⟩) (v := ?_) rfl (by kernel_rfl) (by kernel_rfl) (by kernel_rfl) (fun _ _ _ h => h) (Or.inl ⟨by rfl, ?_⟩) (by assumption) ?_
  rotate_left
  · intro w hSw
    try dsimp only at hSw
    go_simp
    try with_reducible rfl
  try simp only [Act.put, List.setIfInBounds_toArray, List.set_cons_zero, List.set_cons_succ]
  refine wpAnyH_take (i := 1) (oi := ⟨some 24, .load 9 (.tmp 3), _, _, _, none⟩) (v := ?_) rfl (by kernel_rfl) (by kernel_rfl) (by kernel_rfl) (fun _ _ _ h => h) (Or.inl ⟨by rfl, ?_⟩) (by assumption) ?_
  rotate_left
  · intro w hSw
    try dsimp only at hSw
    go_simp
    try with_reducible rfl
  try simp only [Act.put, List.setIfInBounds_toArray, List.set_cons_zero, List.set_cons_succ]
  refine wpAnyH_take (i := 2) (oi := ⟨some 25, .index 9 (.tmp 24) (.const (.int .i64 0)), _, _, _, none⟩) (v := ?_) rfl (by kernel_rfl) (by kernel_rfl) (by kernel_rfl) (fun _ _ _ h => h) (Or.inl ⟨by rfl, ?_⟩) (by assumption) ?_
  rotate_left
  · intro w hSw
    try dsimp only at hSw
    go_simp
    try with_reducible rfl
  try simp only [Act.put, List.setIfInBounds_toArray, List.set_cons_zero, List.set_cons_succ]
  refine wpAnyH_take (i := 3) (oi := ⟨some 26, .binOp .eql 5 (.tmp 25) (.const (.int .u8 47)) 5, _, _, _, none⟩) (v := ?_) rfl (by kernel_rfl) (by kernel_rfl) (by kernel_rfl) (fun _ _ _ h => h) (Or.inl ⟨by rfl, ?_⟩) (by assumption) ?_
  rotate_left
  · intro w hSw
    try dsimp only at hSw
    go_simp
    try with_reducible rfl
  try simp only [Act.put, List.setIfInBounds_toArray, List.set_cons_zero, List.set_cons_succ]
  refine wpAnyH_take (i := 4) (oi := ⟨some 27, .load 9 (.tmp 3), _, _, _, none⟩) (v := ?_) rfl (by kernel_rfl) (by kernel_rfl) (by kernel_rfl) (fun _ _ _ h => h) (Or.inl ⟨by rfl, ?_⟩) (by assumption) ?_
  rotate_left
  · intro w hSw
    try dsimp only at hSw
    go_simp
    try with_reducible rfl
  try simp only [Act.put, List.setIfInBounds_toArray, List.set_cons_zero, List.set_cons_succ]
  refine wpAnyH_ready (rs := [5]) (by kernel_rfl) (by simp) ?_
  refine AllReadyH.cons (o := ⟨some 28, _, _, _, _, none⟩) rfl (fun K hK => ?_) AllReadyH.nil
  go_simp
  (go_at_call 30; (with_reducible refine (tg_take_no _ _ _ _ _ _ w _ HD.out).mono ?_); rintro e w99 ⟨rfl, h99⟩; replace HD := Kp.mk h99; clear h99)
  try go_wp2_with fail
  refine hK.out _ _ HD.out.cells (fun hHeld2 => ?_)
  clear hK K
  try simp only [Act.put, List.setIfInBounds_toArray, List.set_cons_zero, List.set_cons_succ]
  refine wpAnyH_take (i := 6) (oi := ⟨some 29, .move (.tmp 28), _, _, _, none⟩) (v := ?_) rfl (by kernel_rfl) (by kernel_rfl) (by kernel_rfl) (fun _ _ _ h => h) (Or.inl ⟨by rfl, ?_⟩) (by assumption) ?_
  rotate_left
  · intro w hSw
    try dsimp only at hSw
    go_simp
    try with_reducible rfl
  try simp only [Act.put, List.setIfInBounds_toArray, List.set_cons_zero, List.set_cons_succ]
  refine wpAnyH_take (i := 7) (oi := ⟨some 30, .load 52 (.tmp 7), _, _, _, some (6, false)⟩) (v := ?_) rfl (by kernel_rfl) (by kernel_rfl) (by kernel_rfl) (fun _ _ _ h => h) (Or.inl ⟨by rfl, ?_⟩) (by assumption) ?_
  rotate_left
  · intro w hSw
    try dsimp only at hSw
    go_simp
    try with_reducible rfl
  try simp only [Act.put, List.setIfInBounds_toArray, List.set_cons_zero, List.set_cons_succ]
  refine wpAnyH_take (i := 8) (oi := ⟨some 31, .load 9 (.tmp 3), _, _, _, some (6, false)⟩) (v := ?_) rfl (by kernel_rfl) (by kernel_rfl) (by kernel_rfl) (fun _ _ _ h => h) (Or.inl ⟨by rfl, ?_⟩) (by assumption) ?_
  rotate_left
  · intro w hSw
    try dsimp only at hSw
    go_simp
    try with_reducible rfl
  try simp only [Act.put, List.setIfInBounds_toArray, List.set_cons_zero, List.set_cons_succ]
  refine wpAnyH_take (i := 9) (oi := ⟨some 32, .binOp .eql 9 (.tmp 31) (.const (.string ⟨#[42]⟩)) 9, _, _, _, some (6, false)⟩) (v := ?_) rfl (by kernel_rfl) (by kernel_rfl) (by kernel_rfl) (fun _ _ _ h => h) (Or.inl ⟨by rfl, ?_⟩) (by assumption) ?_
  rotate_left
  · intro w hSw
    try dsimp only at hSw
    go_simp
    try with_reducible rfl
  try simp only [Act.put, List.setIfInBounds_toArray, List.set_cons_zero, List.set_cons_succ]
  refine wpAnyH_take (i := 10) (oi := ⟨some 33, .move (.tmp 32), _, _, _, some (6, false)⟩) (v := ?_) rfl (by kernel_rfl) (by kernel_rfl) (by kernel_rfl) (fun _ _ _ h => h) (Or.inl ⟨by rfl, ?_⟩) (by assumption) ?_
  rotate_left
  · intro w hSw
    try dsimp only at hSw
    go_simp
    try with_reducible rfl
  try simp only [Act.put, List.setIfInBounds_toArray, List.set_cons_zero, List.set_cons_succ]
  refine wpAnyH_take (i := 11) (oi := ⟨some 34, .move (.tmp 0), _, _, _, some (10, true)⟩) (v := ?_) rfl (by kernel_rfl) (by kernel_rfl) (by kernel_rfl) (fun _ _ _ h => h) (Or.inl ⟨by rfl, ?_⟩) (by assumption) ?_
  rotate_left
  · intro w hSw
    try dsimp only at hSw
    go_simp
    try with_reducible rfl
  try simp only [Act.put, List.setIfInBounds_toArray, List.set_cons_zero, List.set_cons_succ]
  refine wpAnyH_take (i := 12) (oi := ⟨some 35, .binOp .eql 9 (.tmp 34) (.const (.string ⟨#[79, 80, 84, 73, 79, 78, 83]⟩)) 9, _, _, _, some (10, true)⟩) (v := ?_) rfl (by kernel_rfl) (by kernel_rfl) (by kernel_rfl) (fun _ _ _ h => h) (Or.inl ⟨by rfl, ?_⟩) (by assumption) ?_
  rotate_left
  · intro w hSw
    try dsimp only at hSw
    go_simp
    try with_reducible rfl
  try simp only [Act.put, List.setIfInBounds_toArray, List.set_cons_zero, List.set_cons_succ]
  refine wpAnyH_take (i := 13) (oi := ⟨some 36, .pick (.tmp 33) (.tmp 35) (.const (.bool false)), _, _, _, some (6, false)⟩) (v := ?_) rfl (by kernel_rfl) (by kernel_rfl) (by kernel_rfl) (fun _ _ _ h => h) (Or.inl ⟨by rfl, ?_⟩) (by assumption) ?_
  rotate_left
  · intro w hSw
    try dsimp only at hSw
    go_simp
    try with_reducible rfl
  try simp only [Act.put, List.setIfInBounds_toArray, List.set_cons_zero, List.set_cons_succ]
  refine wpAnyH_ready (rs := [14]) (by kernel_rfl) (by simp) ?_
  refine AllReadyH.cons (o := ⟨some 37, _, _, _, _, some (6, false)⟩) rfl (fun K hK => ?_) AllReadyH.nil
  go_simp
  (go_at_call 30; (with_reducible refine (tg_take_no _ _ _ _ _ _ w _ HD.out).mono ?_); rintro e w99 ⟨rfl, h99⟩; replace HD := Kp.mk h99; clear h99)
  try go_wp2_with fail
  refine hK.out _ _ HD.out.cells (fun hHeld2 => ?_)
  clear hK K
  try simp only [Act.put, List.setIfInBounds_toArray, List.set_cons_zero, List.set_cons_succ]
  refine wpAnyH_take (i := 15) (oi := ⟨some 38, .pick (.tmp 29) (.const (.bool true)) (.tmp 37), _, _, _, none⟩) (v := ?_) rfl (by kernel_rfl) (by kernel_rfl) (by kernel_rfl) (fun _ _ _ h => h) (Or.inl ⟨by rfl, ?_⟩) (by assumption) ?_
  rotate_left
  · intro w hSw
    try dsimp only at hSw
    go_simp
    try with_reducible rfl
  try simp only [Act.put, List.setIfInBounds_toArray, List.set_cons_zero, List.set_cons_succ]
  refine wpAnyH_take (i := 16) (oi := ⟨some 39, .move (.tmp 38), _, _, _, none⟩) (v := ?_) rfl (by kernel_rfl) (by kernel_rfl) (by kernel_rfl) (fun _ _ _ h => h) (Or.inl ⟨by rfl, ?_⟩) (by assumption) ?_
  rotate_left
  · intro w hSw
    try dsimp only at hSw
    go_simp
    try with_reducible rfl
  try simp only [Act.put, List.setIfInBounds_toArray, List.set_cons_zero, List.set_cons_succ]
  refine wpAnyH_take (i := 17) (oi := ⟨some 40, .move (.tmp 8), _, _, _, some (16, false)⟩) (v := ?_) rfl (by kernel_rfl) (by kernel_rfl) (by kernel_rfl) (fun _ _ _ h => h) (Or.inl ⟨by rfl, ?_⟩) (by assumption) ?_
  rotate_left
  · intro w hSw
    try dsimp only at hSw
    go_simp
    try with_reducible rfl
  try simp only [Act.put, List.setIfInBounds_toArray, List.set_cons_zero, List.set_cons_succ]
  refine wpAnyH_ready (rs := [18]) (by kernel_rfl) (by simp) ?_
  refine AllReadyH.cons (o := ⟨some 41, _, _, _, _, some (16, false)⟩) rfl (fun K hK => ?_) AllReadyH.nil
  go_simp
  (go_at_call 31; refine (HPL.out _ _ HD.out).mono ?_; rintro e w99 ⟨rfl, h99⟩; replace HD := Kp.mk h99; clear h99)
  try go_wp2_with fail
  refine hK.out _ _ HD.out.cells (fun hHeld2 => ?_)
  clear hK K
  try simp only [Act.put, List.setIfInBounds_toArray, List.set_cons_zero, List.set_cons_succ]
  refine wpAnyH_take (i := 19) (oi := ⟨some 42, .pick (.tmp 39) (.const (.bool true)) (.tmp 41), _, _, _, none⟩) (v := ?_) rfl (by kernel_rfl) (by kernel_rfl) (by kernel_rfl) (fun _ _ _ h => h) (Or.inl ⟨by rfl, ?_⟩) (by assumption) ?_
  rotate_left
  · intro w hSw
    try dsimp only at hSw
    go_simp
    try with_reducible rfl
  try simp only [Act.put, List.setIfInBounds_toArray, List.set_cons_zero, List.set_cons_succ]
  refine wpAnyH_take (i := 20) (oi := ⟨some 9, .assign (.tmp 42), _, _, _, none⟩) (v := ?_) rfl (by kernel_rfl) (by kernel_rfl) (by kernel_rfl) (fun _ _ _ h => h) (Or.inl ⟨by rfl, ?_⟩) (by assumption) ?_
  rotate_left
  · intro w hSw
    try dsimp only at hSw
    go_simp
    try with_reducible rfl
  try simp only [Act.put, List.setIfInBounds_toArray, List.set_cons_zero, List.set_cons_succ]
  refine wpAnyH_done (by kernel_rfl) ?_ _
  all_goals
    obtain ⟨c0, c1, c2, f0, f1, f2, hl⟩ := tg_res HD.out.b1
    have t0 := HD.out.b2.cell 0
    have t1 := HD.out.b2.cell 1
    have t2 := HD.out.b2.cell 2
    unfold tgC at t0 t1 t2
    simp at t0 t1 t2
    have HBE := Kp.mk (tgbel3 HD.out.bel (h := w.heap.size + 1) (by omega) (.int .i64 (0)) (.string ⟨#[]⟩) (.string ⟨#[]⟩))
    go_wp2_with fail
    exact bodyPost_ret (v := .tuple #[.agg #[.int .i64 (0), .string ⟨#[]⟩, .string ⟨#[]⟩], .int .i64 11]) (by simp [results, Tryd.results8, go_sem, c0, c1, c2, hl]) rfl ⟨rfl, HBE.out⟩
theorem tgOkA_star : tgOkA ⟨#[42]⟩ = false := by decide +kernel
theorem tg_parse_any (m s : ByteArray) (w : World) (hm : m.size ≤ 1000000) (hs : s.size ≤ 1000000) : Calls Tryd.prog 8 #[.string m, .string s] w (RetTg (tgR m s) w) := by
  by_cases h0 : s.size = 0
  · exact tg_parse_bad m s w hm hs (.inl h0)
  · cases hb : tgBad s
    · by_cases hc : m = tgCon
      · by_cases hk : hsE s = 0 ∧ hsHas s = true
        · rw [hc, tg_con hb hk]; exact tg_good_con tgCon s w hs hb rfl hk
        · rw [show tgR m s = tgNo 11 by unfold tgR; rw [if_neg h0, if_neg (by rw [hb]; simp), if_pos hc, if_neg hk]]
          exact tg_good_con0 m s w hs hb hc hk
      · by_cases h47 : bt s 0 = 47
        · rw [tg_one hb hc h47]; exact tg_good_path m s w hs hb hc h47
        · by_cases h42 : s = ⟨#[42]⟩
          · by_cases hmo : m = tgOpt
            · rw [h42, hmo, tg_star]; exact tg_good_star tgOpt ⟨#[42]⟩ w (by decide) (by decide +kernel) (by decide) (by decide +kernel) rfl rfl
            · have hk : tgOkA s = false := by rw [h42]; exact tgOkA_star
              rw [show tgR m s = tgNo 11 by unfold tgR; rw [if_neg h0, if_neg (by rw [hb]; simp), if_neg hc, if_neg h47, if_neg (fun q => hmo q.2), if_neg (by rw [hk]; simp)]]
              exact tg_good_no2 m s w hs hb hc h47 h42 hmo hk
          · cases hk : tgOkA s
            · rw [show tgR m s = tgNo 11 by unfold tgR; rw [if_neg h0, if_neg (by rw [hb]; simp), if_neg hc, if_neg h47, if_neg (fun q => h42 q.1), if_neg (by rw [hk]; simp)]]
              exact tg_good_no m s w hs hb hc h47 h42 hk
            · rw [tg_abs hb hc h47 (fun q => h42 q.1) hk]; exact tg_good_abs m s w hs hb hc h47 h42 hk
    · exact tg_parse_bad m s w hm hs (.inr hb)
end Go.Proofs.YtahehpgnemanmaaDoor
