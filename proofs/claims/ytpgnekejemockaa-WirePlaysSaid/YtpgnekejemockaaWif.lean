/- The document's Read (layer 42). Made by bin/mkwia.py. -/
import Derived.Test.YtpgnekejemockaaWia
import Derived.Deep.RegionWith
namespace Go.Proofs.Ytpgnekejemockaa
open Go.RowKit
set_option linter.unusedVariables false
set_option linter.unusedSimpArgs false
set_option maxHeartbeats 2000000 in
set_option maxRecDepth 100000 in
theorem ry_read (c : Nat) (Z : Ld) (M : Nat) (S O : List UInt8) (e0 e1 : Bool) (n : Int) (w : World) (h : RY c Z M S O e0 e1 w) (hM : M ≤ 100000) (hS : S.length ≤ M) (hL : Z.L.size ≤ 100000) (u : Nat) (hu : u = min n.toNat Z.L.size) (t : ByteArray) (ht : t = Z.L.extract 0 u) :
    Calls Try.prog 59 #[.pointer (some ⟨c, 2, none⟩), .pointer (some ⟨c, 6, none⟩), .int .i64 n] w fun e w' => e = .returned (.int .i64 (giveN e0 e1 M S t : Nat)) ∧
      RYTo c { Z with L := Z.L.extract (giveN e0 e1 M S t) Z.L.size } M (S ++ t.data.toList.take (giveN e0 e1 M S t)) O (e0 || (Z.en && decide (Z.L.extract (giveN e0 e1 M S t) Z.L.size = ByteArray.empty))) e1 w w' := by
  have hts : t.size ≤ Z.L.size := by rw [ht]; simp; omega
  have hg := giveN_le e0 e1 M S t
  obtain ⟨zw, zk, zL, zm, ze, zt⟩ := Z
  simp only at hL ht hts hu
  have c2 := blk_cell (i := 2) h.blk rfl
  simp only at c2
  have HG := Kp.mk (ry_give c ⟨zw, zk, zL, zm, ze, zt⟩ M S O e0 e1 t (w.drewN 1) ⟨h.blk⟩ hM hS (by omega))
  generalize hgg : giveN e0 e1 M S t = g at *
  have q1 : (g : Int) ≤ (zL.size : Int) := by omega
  have q0 : (0 : Int) ≤ (g : Int) := by omega
  have t3 : (zL.size : Int) ≤ 100000 := by omega
  obtain ⟨mv, hmv⟩ : ∃ mv : Int, mv = (if n < 0 then (0 : Int) else n) := ⟨_, rfl⟩
  have hmn : (if (zL.size : Int) < mv then (zL.size : Int) else mv) = (u : Int) := by
    rw [hmv]
    split <;> split <;> omega
  have h4 : (0 : Int) ≤ (u : Int) := by omega
  have h5 : (u : Int) ≤ (zL.size : Int) := by omega
  have hemp := emp_or (zL.extract g zL.size)
  have hway : ze = false ∨ (ze = true ∧ (decide (zL.extract g zL.size = ByteArray.empty) = true ∧ (zL.extract g zL.size).toList = [] ∧ (zL.extract g zL.size).toList.isEmpty = true)) ∨ (ze = true ∧ (decide (zL.extract g zL.size = ByteArray.empty) = false ∧ ¬ ((zL.extract g zL.size).toList = []) ∧ (zL.extract g zL.size).toList.isEmpty = false)) := by
    cases ze
    · exact .inl rfl
    · exact .inr (hemp.imp (fun h => ⟨rfl, h⟩) (fun h => ⟨rfl, h⟩))
  have HH := Kp.mk h
  have HT := Kp.mk ht.symm
  clear h hM hS hL ht hts hg hgg hu hemp
  have HMN := Kp.mk hmn
  have HMV := Kp.mk hmv.symm
  clear hmn hmv
  rcases hway with rfl | ⟨rfl, d1, d2, d3⟩ | ⟨rfl, d1, d2, d3⟩
  all_goals
    try (have HD1 := Kp.mk d1; clear d1)
    go_enter Try.func59, Try.ntmps59
    go_wp2_with fail
    refine wp_region_held_drew (S := fun w' => w'.cell? ⟨c, 2, none⟩ = some (.string zL)) (by kernel_rfl) (show _ from c2) (fun hHeld => ?_)
    refine wpAnyH_take (i := 0) (oi := ⟨some 8, .move (.tmp 1), _, _, _, none⟩) (v := ?_) rfl (by kernel_rfl) (by kernel_rfl) (by kernel_rfl) (fun _ _ _ h => h) (Or.inl ⟨by rfl, ?_⟩) (by assumption) ?_
    rotate_left
    · intro w hSw
      try dsimp only at hSw
      go_simp
      try with_reducible rfl
    try simp only [Act.put, List.setIfInBounds_toArray, List.set_cons_zero, List.set_cons_succ]
    refine wpAnyH_take (i := 1) (oi := ⟨some 9, .move (.tmp 0), _, _, _, none⟩) (v := ?_) rfl (by kernel_rfl) (by kernel_rfl) (by kernel_rfl) (fun _ _ _ h => h) (Or.inl ⟨by rfl, ?_⟩) (by assumption) ?_
    rotate_left
    · intro w hSw
      try dsimp only at hSw
      go_simp
      try with_reducible rfl
    try simp only [Act.put, List.setIfInBounds_toArray, List.set_cons_zero, List.set_cons_succ]
    refine wpAnyH_take (i := 2) (oi := ⟨some 10, .nilCheck (.tmp 9), _, _, _, none⟩) (v := ?_) rfl (by kernel_rfl) (by kernel_rfl) (by kernel_rfl) (fun _ _ _ h => h) (Or.inl ⟨by rfl, ?_⟩) (by assumption) ?_
    rotate_left
    · intro w hSw
      try dsimp only at hSw
      go_simp
      try with_reducible rfl
    try simp only [Act.put, List.setIfInBounds_toArray, List.set_cons_zero, List.set_cons_succ]
    refine wpAnyH_take (i := 3) (oi := ⟨some 11, .fieldAddr 72 (.tmp 10) 0, _, _, _, none⟩) (v := ?_) rfl (by kernel_rfl) (by kernel_rfl) (by kernel_rfl) (fun _ _ _ h => h) (Or.inl ⟨by rfl, ?_⟩) (by assumption) ?_
    rotate_left
    · intro w hSw
      try dsimp only at hSw
      go_simp
      try with_reducible rfl
    try simp only [Act.put, List.setIfInBounds_toArray, List.set_cons_zero, List.set_cons_succ]
    refine wpAnyH_take (i := 4) (oi := ⟨some 12, .load 9 (.tmp 11), _, _, _, none⟩) (v := ?_) rfl (by kernel_rfl) (by kernel_rfl) (by kernel_rfl) (fun _ _ _ h => h) (Or.inl ⟨by rfl, ?_⟩) (by assumption) ?_
    rotate_left
    · intro w hSw
      try dsimp only at hSw
      go_simp
      try with_reducible rfl
    try simp only [Act.put, List.setIfInBounds_toArray, List.set_cons_zero, List.set_cons_succ]
    refine wpAnyH_take (i := 5) (oi := ⟨some 13, .move (.tmp 2), _, _, _, none⟩) (v := ?_) rfl (by kernel_rfl) (by kernel_rfl) (by kernel_rfl) (fun _ _ _ h => h) (Or.inl ⟨by rfl, ?_⟩) (by assumption) ?_
    rotate_left
    · intro w hSw
      try dsimp only at hSw
      go_simp
      try with_reducible rfl
    try simp only [Act.put, List.setIfInBounds_toArray, List.set_cons_zero, List.set_cons_succ]
    refine wpAnyH_take (i := 6) (oi := ⟨some 14, .call { callee := .builtin .max, args := #[.tmp 13, .const (.int .i64 0)], argTypes := #[3, 3] }, _, _, _, none⟩) (v := .int .i64 mv) rfl (by kernel_rfl) (by kernel_rfl) (by kernel_rfl) (fun _ _ _ h => h) (Or.inl ⟨by rfl, ?_⟩) (by assumption) ?_
    · intro w hSw
      try dsimp only at hSw
      rw [← HMV.out]
      go_simp
    try simp only [Act.put, List.setIfInBounds_toArray, List.set_cons_zero, List.set_cons_succ]
    refine wpAnyH_take (i := 7) (oi := ⟨some 15, .move (.tmp 0), _, _, _, none⟩) (v := ?_) rfl (by kernel_rfl) (by kernel_rfl) (by kernel_rfl) (fun _ _ _ h => h) (Or.inl ⟨by rfl, ?_⟩) (by assumption) ?_
    rotate_left
    · intro w hSw
      try dsimp only at hSw
      go_simp
      try with_reducible rfl
    try simp only [Act.put, List.setIfInBounds_toArray, List.set_cons_zero, List.set_cons_succ]
    refine wpAnyH_take (i := 8) (oi := ⟨some 16, .nilCheck (.tmp 15), _, _, _, none⟩) (v := ?_) rfl (by kernel_rfl) (by kernel_rfl) (by kernel_rfl) (fun _ _ _ h => h) (Or.inl ⟨by rfl, ?_⟩) (by assumption) ?_
    rotate_left
    · intro w hSw
      try dsimp only at hSw
      go_simp
      try with_reducible rfl
    try simp only [Act.put, List.setIfInBounds_toArray, List.set_cons_zero, List.set_cons_succ]
    refine wpAnyH_take (i := 9) (oi := ⟨some 17, .fieldAddr 72 (.tmp 16) 0, _, _, _, none⟩) (v := ?_) rfl (by kernel_rfl) (by kernel_rfl) (by kernel_rfl) (fun _ _ _ h => h) (Or.inl ⟨by rfl, ?_⟩) (by assumption) ?_
    rotate_left
    · intro w hSw
      try dsimp only at hSw
      go_simp
      try with_reducible rfl
    try simp only [Act.put, List.setIfInBounds_toArray, List.set_cons_zero, List.set_cons_succ]
    refine wpAnyH_take (i := 10) (oi := ⟨some 18, .load 9 (.tmp 17), _, _, _, none⟩) (v := ?_) rfl (by kernel_rfl) (by kernel_rfl) (by kernel_rfl) (fun _ _ _ h => h) (Or.inl ⟨by rfl, ?_⟩) (by assumption) ?_
    rotate_left
    · intro w hSw
      try dsimp only at hSw
      go_simp
      try with_reducible rfl
    try simp only [Act.put, List.setIfInBounds_toArray, List.set_cons_zero, List.set_cons_succ]
    refine wpAnyH_take (i := 11) (oi := ⟨some 19, .call { callee := .builtin .len, args := #[.tmp 18], argTypes := #[9] }, _, _, _, none⟩) (v := ?_) rfl (by kernel_rfl) (by kernel_rfl) (by kernel_rfl) (fun _ _ _ h => h) (Or.inl ⟨by rfl, ?_⟩) (by assumption) ?_
    rotate_left
    · intro w hSw
      try dsimp only at hSw
      go_simp
      try with_reducible rfl
    try simp only [Act.put, List.setIfInBounds_toArray, List.set_cons_zero, List.set_cons_succ]
    refine wpAnyH_take (i := 12) (oi := ⟨some 20, .call { callee := .builtin .min, args := #[.tmp 14, .tmp 19], argTypes := #[3, 3] }, _, _, _, none⟩) (v := .int .i64 (u : Int)) rfl (by kernel_rfl) (by kernel_rfl) (by kernel_rfl) (fun _ _ _ h => h) (Or.inl ⟨by rfl, ?_⟩) (by assumption) ?_
    · intro w hSw
      try dsimp only at hSw
      go_simp
      rw [HMN.out]
    try simp only [Act.put, List.setIfInBounds_toArray, List.set_cons_zero, List.set_cons_succ]
    refine wpAnyH_take (i := 13) (oi := ⟨some 21, .slice 9 (.tmp 12) none (some (.tmp 20)) none, _, _, _, none⟩) (v := ?_) rfl (by kernel_rfl) (by kernel_rfl) (by kernel_rfl) (fun _ _ _ h => h) (Or.inl ⟨by rfl, ?_⟩) (by assumption) ?_
    rotate_left
    · intro w hSw
      try dsimp only at hSw
      go_simp
      try with_reducible rfl
    try simp only [Act.put, List.setIfInBounds_toArray, List.set_cons_zero, List.set_cons_succ]
    refine wpAnyH_ready (rs := [14]) (by kernel_rfl) (by simp) ?_
    refine AllReadyH.cons (o := ⟨some 22, _, _, _, _, none⟩) rfl (fun K hK => ?_) AllReadyH.nil
    go_simp
    (go_at_call 90; (try rw [HT.out]); refine HG.out.mono ?_; rintro e w1 ⟨rfl, h1, ho1⟩; have H1 := Kp.mk h1; have HO1 := Kp.mk ho1; clear h1 ho1)
    try go_wp2_with fail
    refine hK.out _ _ (blk_cell (i := 2) H1.out.blk rfl) (fun hHeld2 => ?_)
    clear hK K
    try simp only [Act.put, List.setIfInBounds_toArray, List.set_cons_zero, List.set_cons_succ]
    refine wpAnyH_take (i := 15) (oi := ⟨some 7, .assign (.tmp 22), _, _, _, none⟩) (v := ?_) rfl (by kernel_rfl) (by kernel_rfl) (by kernel_rfl) (fun _ _ _ h => h) (Or.inl ⟨by rfl, ?_⟩) (by assumption) ?_
    rotate_left
    · intro w hSw
      try dsimp only at hSw
      go_simp
      try with_reducible rfl
    try simp only [Act.put, List.setIfInBounds_toArray, List.set_cons_zero, List.set_cons_succ]
    refine wpAnyH_done (by kernel_rfl) ?_ _
    have k2 := blk_cell (i := 2) H1.out.blk rfl
    have k4 := blk_cell (i := 4) H1.out.blk rfl
    have j2 := blk_free (i := 2) H1.out.blk
    have j9 := blk_free (i := 9) H1.out.blk
    simp only at k4 k2
    have k9 : w1.cell? ⟨c, 9, none⟩ = some (.bool e0) := blk_cell (i := 9) H1.out.blk rfl
    have HOW := Kp.mk (show Onl c none w w1 from ⟨HO1.out.os, HO1.out.tape, HO1.out.output, HO1.out.size, HO1.out.block⟩)
    clear HO1
    go_wp2_with fail
    go_ret
    refine ⟨rfl, ⟨?_⟩, by first | exact HOW.out.setCell _ _ | exact (HOW.out.setCell _ _).setCell _ _⟩
    first
      | (rw [Bool.false_and, Bool.or_false]; exact (blk_set H1.out.blk _).trans (by first | rfl | simp))
      | (rw [HD1.out, Bool.true_and, Bool.or_true]; exact (blk_set (blk_set H1.out.blk _) _).trans (by first | rfl | simp))
      | (rw [HD1.out, Bool.true_and, Bool.or_false]; exact (blk_set H1.out.blk _).trans (by first | rfl | simp))
end Go.Proofs.Ytpgnekejemockaa
