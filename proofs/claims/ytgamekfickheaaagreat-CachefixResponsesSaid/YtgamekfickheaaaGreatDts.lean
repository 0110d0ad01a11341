/- Dates of fields (layer 6): the document's Form, form 1 (bin/mkdtr.py). -/
import Derived.Test.YtgamekfickheaaaGreatDtr
import Derived.BigRegion
import Derived.Deep.DeepCutAuto
namespace Go.Proofs.YtgamekfickheaaaGreat
open Go.RowKit
set_option linter.unusedVariables false
set_option linter.unusedSimpArgs false

set_option maxRecDepth 100000 in
set_option maxHeartbeats 4000000 in
theorem dform1 (tx : ByteArray) (now : Int) (w : World) (hs : tx.size ≤ 100000) :
    Calls Tryz.prog 102 #[.string tx, .int .i64 1, .int .i64 now] w (RetFo (fo1 tx) w) := by
  have HX := Kp.mk (DF.new w)
  have HNE := Kp.mk (@fo1_neg tx)
  have HPO := Kp.mk (@fo1_pos tx)
  go_enter Tryz.func102, Tryz.ntmps102
  go_wp2_with fail
  go_loopw [10, 17] (fun x i wr => ∃ k : Nat, k ≤ 7 ∧ i = .int .i64 k ∧ x = .int .i64 (wkU tx k) ∧ (3 < tx.size ∨ k = 0) ∧ DF w 0 0 0 0 0 0 wr) (fun x i _ => 7 - (intOf i).toNat)
  case atStart => exact ⟨0, by omega, rfl, rfl, .inr rfl, HX.out⟩
  case round =>
    obtain ⟨k, hk, rfl, rfl, hz, hD⟩ := hrel
    have HDr := Kp.mk hD
    clear hD HX
    by_cases hlt : k < 7 ∧ 3 < tx.size
    · obtain ⟨hk7, hz3⟩ := hlt
      have q1 : (k : Int) < 7 := by omega
      have q0 : (0 : Int) ≤ (k : Int) := by omega
      have q3 : (3 : Int) < (tx.size : Int) := by omega
      have q3' : (3 : Int) ≤ (tx.size : Int) := by omega
      have HWC := Kp.mk (wdC_at k hk7)
      have H3 := Kp.mk (wd3_ext k)
      have hz4 : (3 : Int) ≤ ((wdS k).size : Int) := by have := wdS_size _ hk7; omega
      have HM := Kp.mk (@wkU_miss tx k)
      have HH := Kp.mk (fun h => @wkU_hit tx k hk7 h)
      generalize hU : wkU tx k = U at *
      generalize hU1 : wkU tx (k + 1) = U1 at *
      have HU := Kp.mk hU1
      clear hU hU1
      by_cases he : tx.extract 0 3 = ofL (wd3 k)
      · have hw : tx.extract 0 3 = (wdS k).extract 0 3 := he.trans H3.out.symm
        have t2 : ((tx.extract 0 3).toList == ((wdS k).extract 0 3).toList) = true := by rw [hw]; simp
        have HV := Kp.mk (HH.out he)
        clear he HH HM hw
        go_upto_region 25 with fail
        refine wp_region_held_drew (S := fun _ => True) (by kernel_rfl) (trivial) (fun hHeld => ?_)
        refine wpAnyH_take (i := 0) (oi := ⟨some 143, .move (.tmp 0), _, _, _, none⟩) (v := ?_) rfl (by kernel_rfl) (by kernel_rfl) (by kernel_rfl) (fun _ _ _ h => h) (Or.inl ⟨by rfl, ?_⟩) (by assumption) ?_
        rotate_left
        · intro w hSw
          try dsimp only at hSw
          go_simp
          try with_reducible rfl
        try simp only [Act.put, List.setIfInBounds_toArray, List.set_cons_zero, List.set_cons_succ]
        refine wpAnyH_take (i := 1) (oi := ⟨some 144, .slice 9 (.tmp 143) none (some (.const (.int .i64 3))) none, _, _, _, none⟩) (v := ?_) rfl (by kernel_rfl) (by kernel_rfl) (by kernel_rfl) (fun _ _ _ h => h) (Or.inl ⟨by rfl, ?_⟩) (by assumption) ?_
        rotate_left
        · intro w hSw
          try dsimp only at hSw
          go_simp
          try with_reducible rfl
        try simp only [Act.put, List.setIfInBounds_toArray, List.set_cons_zero, List.set_cons_succ]
        refine wpAnyH_take (i := 3) (oi := ⟨some 146, .move (.tmp 17), _, _, _, none⟩) (v := ?_) rfl (by kernel_rfl) (by kernel_rfl) (by kernel_rfl) (fun _ _ _ h => h) (Or.inl ⟨by rfl, ?_⟩) (by assumption) ?_
        rotate_left
        · intro w hSw
          try dsimp only at hSw
          go_simp
          try with_reducible rfl
        try simp only [Act.put, List.setIfInBounds_toArray, List.set_cons_zero, List.set_cons_succ]
        refine wpAnyH_ready (rs := [2]) (by kernel_rfl) (by simp) ?_
        refine AllReadyH.cons (o := ⟨some 145, _, _, _, _, none⟩) rfl (fun K hK => ?_) AllReadyH.nil
        go_simp
        (go_at_call 106; refine (rdays6_any _).mono ?_; rintro e wn ⟨rfl, hb, hk⟩)
        replace hk := (show wn.heap[wr.heap.size]? = some (.cells wdC 9 (0, 0)) by simpa using hk)
        have dk := blk_cell (i := k) hk HWC.out
        have HD2 := Kp.mk (HDr.out.below ((gdrewN _ 1).trans hb))
        clear hb hk
        try go_wp2_with fail
        refine hK.out _ _ (trivial) (fun hHeld2 => ?_)
        clear hK K
        try simp only [Act.put, List.setIfInBounds_toArray, List.set_cons_zero, List.set_cons_succ]
        refine wpAnyH_more (S2 := fun w' => w'.cell? ⟨wr.heap.size, k, none⟩ = some (.string (wdS k))) (fun w h => trivial) _ _ _ _ ?_
        have hHeld8 := dk
        clear hHeld2
        refine wpAnyH_take (i := 4) (oi := ⟨some 147, .indexAddr 54 (.tmp 145) (.tmp 146), _, _, _, none⟩) (v := ?_) rfl (by kernel_rfl) (by kernel_rfl) (by kernel_rfl) (fun _ _ _ h => h) (Or.inl ⟨by rfl, ?_⟩) (by assumption) ?_
        rotate_left
        · intro w hSw
          try dsimp only at hSw
          go_simp
          try with_reducible rfl
        try simp only [Act.put, List.setIfInBounds_toArray, List.set_cons_zero, List.set_cons_succ]
        refine wpAnyH_take (i := 5) (oi := ⟨some 148, .load 9 (.tmp 147), _, _, _, none⟩) (v := ?_) rfl (by kernel_rfl) (by kernel_rfl) (by kernel_rfl) (fun _ _ _ h => h) (Or.inl ⟨by rfl, ?_⟩) (by assumption) ?_
        rotate_left
        · intro w hSw
          try dsimp only at hSw
          go_simp
          try with_reducible rfl
        try simp only [Act.put, List.setIfInBounds_toArray, List.set_cons_zero, List.set_cons_succ]
        refine wpAnyH_take (i := 6) (oi := ⟨some 149, .slice 9 (.tmp 148) none (some (.const (.int .i64 3))) none, _, _, _, none⟩) (v := ?_) rfl (by kernel_rfl) (by kernel_rfl) (by kernel_rfl) (fun _ _ _ h => h) (Or.inl ⟨by rfl, ?_⟩) (by assumption) ?_
        rotate_left
        · intro w hSw
          try dsimp only at hSw
          go_simp
          try with_reducible rfl
        try simp only [Act.put, List.setIfInBounds_toArray, List.set_cons_zero, List.set_cons_succ]
        refine wpAnyH_take (i := 7) (oi := ⟨some 150, .binOp .eql 9 (.tmp 144) (.tmp 149) 9, _, _, _, none⟩) (v := ?_) rfl (by kernel_rfl) (by kernel_rfl) (by kernel_rfl) (fun _ _ _ h => h) (Or.inl ⟨by rfl, ?_⟩) (by assumption) ?_
        rotate_left
        · intro w hSw
          try dsimp only at hSw
          go_simp
          try with_reducible rfl
        try simp only [Act.put, List.setIfInBounds_toArray, List.set_cons_zero, List.set_cons_succ]
        refine wpAnyH_done (by kernel_rfl) ?_ _
        go_wp2_with fail
        go_roundw
        case rel => exact ⟨k + 1, by omega, by go_num, by rw [HU.out, HV.out], .inl hz3, HD2.out⟩
        case measure => simp [intOf]; omega
      · have hw : tx.extract 0 3 ≠ (wdS k).extract 0 3 := fun h => he (h.trans H3.out)
        have t2 := ba_tlb6 hw
        have HV := Kp.mk (HM.out he)
        clear he HH HM hw
        go_upto_region 25 with fail
        refine wp_region_held_drew (S := fun _ => True) (by kernel_rfl) (trivial) (fun hHeld => ?_)
        refine wpAnyH_take (i := 0) (oi := ⟨some 143, .move (.tmp 0), _, _, _, none⟩) (v := ?_) rfl (by kernel_rfl) (by kernel_rfl) (by kernel_rfl) (fun _ _ _ h => h) (Or.inl ⟨by rfl, ?_⟩) (by assumption) ?_
        rotate_left
        · intro w hSw
          try dsimp only at hSw
          go_simp
          try with_reducible rfl
        try simp only [Act.put, List.setIfInBounds_toArray, List.set_cons_zero, List.set_cons_succ]
        refine wpAnyH_take (i := 1) (oi := ⟨some 144, .slice 9 (.tmp 143) none (some (.const (.int .i64 3))) none, _, _, _, none⟩) (v := ?_) rfl (by kernel_rfl) (by kernel_rfl) (by kernel_rfl) (fun _ _ _ h => h) (Or.inl ⟨by rfl, ?_⟩) (by assumption) ?_
        rotate_left
        · intro w hSw
          try dsimp only at hSw
          go_simp
          try with_reducible rfl
        try simp only [Act.put, List.setIfInBounds_toArray, List.set_cons_zero, List.set_cons_succ]
        refine wpAnyH_take (i := 3) (oi := ⟨some 146, .move (.tmp 17), _, _, _, none⟩) (v := ?_) rfl (by kernel_rfl) (by kernel_rfl) (by kernel_rfl) (fun _ _ _ h => h) (Or.inl ⟨by rfl, ?_⟩) (by assumption) ?_
        rotate_left
        · intro w hSw
          try dsimp only at hSw
          go_simp
          try with_reducible rfl
        try simp only [Act.put, List.setIfInBounds_toArray, List.set_cons_zero, List.set_cons_succ]
        refine wpAnyH_ready (rs := [2]) (by kernel_rfl) (by simp) ?_
        refine AllReadyH.cons (o := ⟨some 145, _, _, _, _, none⟩) rfl (fun K hK => ?_) AllReadyH.nil
        go_simp
        (go_at_call 106; refine (rdays6_any _).mono ?_; rintro e wn ⟨rfl, hb, hk⟩)
        replace hk := (show wn.heap[wr.heap.size]? = some (.cells wdC 9 (0, 0)) by simpa using hk)
        have dk := blk_cell (i := k) hk HWC.out
        have HD2 := Kp.mk (HDr.out.below ((gdrewN _ 1).trans hb))
        clear hb hk
        try go_wp2_with fail
        refine hK.out _ _ (trivial) (fun hHeld2 => ?_)
        clear hK K
        try simp only [Act.put, List.setIfInBounds_toArray, List.set_cons_zero, List.set_cons_succ]
        refine wpAnyH_more (S2 := fun w' => w'.cell? ⟨wr.heap.size, k, none⟩ = some (.string (wdS k))) (fun w h => trivial) _ _ _ _ ?_
        have hHeld8 := dk
        clear hHeld2
        refine wpAnyH_take (i := 4) (oi := ⟨some 147, .indexAddr 54 (.tmp 145) (.tmp 146), _, _, _, none⟩) (v := ?_) rfl (by kernel_rfl) (by kernel_rfl) (by kernel_rfl) (fun _ _ _ h => h) (Or.inl ⟨by rfl, ?_⟩) (by assumption) ?_
        rotate_left
        · intro w hSw
          try dsimp only at hSw
          go_simp
          try with_reducible rfl
        try simp only [Act.put, List.setIfInBounds_toArray, List.set_cons_zero, List.set_cons_succ]
        refine wpAnyH_take (i := 5) (oi := ⟨some 148, .load 9 (.tmp 147), _, _, _, none⟩) (v := ?_) rfl (by kernel_rfl) (by kernel_rfl) (by kernel_rfl) (fun _ _ _ h => h) (Or.inl ⟨by rfl, ?_⟩) (by assumption) ?_
        rotate_left
        · intro w hSw
          try dsimp only at hSw
          go_simp
          try with_reducible rfl
        try simp only [Act.put, List.setIfInBounds_toArray, List.set_cons_zero, List.set_cons_succ]
        refine wpAnyH_take (i := 6) (oi := ⟨some 149, .slice 9 (.tmp 148) none (some (.const (.int .i64 3))) none, _, _, _, none⟩) (v := ?_) rfl (by kernel_rfl) (by kernel_rfl) (by kernel_rfl) (fun _ _ _ h => h) (Or.inl ⟨by rfl, ?_⟩) (by assumption) ?_
        rotate_left
        · intro w hSw
          try dsimp only at hSw
          go_simp
          try with_reducible rfl
        try simp only [Act.put, List.setIfInBounds_toArray, List.set_cons_zero, List.set_cons_succ]
        refine wpAnyH_take (i := 7) (oi := ⟨some 150, .binOp .eql 9 (.tmp 144) (.tmp 149) 9, _, _, _, none⟩) (v := ?_) rfl (by kernel_rfl) (by kernel_rfl) (by kernel_rfl) (fun _ _ _ h => h) (Or.inl ⟨by rfl, ?_⟩) (by assumption) ?_
        rotate_left
        · intro w hSw
          try dsimp only at hSw
          go_simp
          try with_reducible rfl
        try simp only [Act.put, List.setIfInBounds_toArray, List.set_cons_zero, List.set_cons_succ]
        refine wpAnyH_done (by kernel_rfl) ?_ _
        go_wp2_with fail
        go_roundw
        case rel => exact ⟨k + 1, by omega, by go_num, by rw [HU.out, HV.out], .inl hz3, HD2.out⟩
        case measure => simp [intOf]; omega
    · by_cases hz3 : tx.size ≤ 3
      · obtain rfl : k = 0 := by omega
        have hn := Kp.mk (HNE.out (fun h => by have := h.2.1.1; omega))
        have q3 : ¬ (3 : Int) < (tx.size : Int) := by omega
        have hU : wkU tx 0 = -1 := rfl
        rw [hU]
        clear hU HNE HPO hlt hz
        have c0 := blk_cell (i := 0) HDr.out.box rfl
        have c1 := blk_cell (i := 1) HDr.out.box rfl
        have c2 := blk_cell (i := 2) HDr.out.box rfl
        have c3 := blk_cell (i := 3) HDr.out.box rfl
        have c4 := blk_cell (i := 4) HDr.out.box rfl
        have c5 := blk_cell (i := 5) HDr.out.box rfl
        have r0 := blk_cell (i := 0) HDr.out.res rfl
        have f0 := blk_free (i := 0) HDr.out.res
        have r1 := blk_cell (i := 1) HDr.out.res rfl
        have f1 := blk_free (i := 1) HDr.out.res
        have r2 := blk_cell (i := 2) HDr.out.res rfl
        have f2 := blk_free (i := 2) HDr.out.res
        have r3 := blk_cell (i := 3) HDr.out.res rfl
        have f3 := blk_free (i := 3) HDr.out.res
        have r4 := blk_cell (i := 4) HDr.out.res rfl
        have f4 := blk_free (i := 4) HDr.out.res
        have r5 := blk_cell (i := 5) HDr.out.res rfl
        have f5 := blk_free (i := 5) HDr.out.res
        have RS := HDr.out.done (0) (0) (0) (0) (0) (0)
        unfold dSet at RS
        go_wp2_with fail
        have z0 := blk_cell (i := 0) RS.1 rfl
        have z1 := blk_cell (i := 1) RS.1 rfl
        have z2 := blk_cell (i := 2) RS.1 rfl
        have z3 := blk_cell (i := 3) RS.1 rfl
        have z4 := blk_cell (i := 4) RS.1 rfl
        have z5 := blk_cell (i := 5) RS.1 rfl
        exact bodyPost_ret (v := .tuple #[.agg #[.int .i64 0, .int .i64 0, .int .i64 0, .int .i64 0, .int .i64 0, .int .i64 0], .int .i64 0, .bool false]) (by simp [results, Tryz.results102, go_sem, z0, z1, z2, z3, z4, z5]) rfl (RetFo.bad hn.out RS.2)
      · obtain rfl : k = 7 := by omega
        rw [wkU_all]
        have hr := wkU_range tx 7 (Nat.le_refl _)
        rw [wkU_all] at hr
        clear hlt hz
        by_cases hV : wkD tx < 0
        · have hn := Kp.mk (HNE.out (fun h => by have := h.1; omega))
          clear HNE HPO
          have c0 := blk_cell (i := 0) HDr.out.box rfl
          have c1 := blk_cell (i := 1) HDr.out.box rfl
          have c2 := blk_cell (i := 2) HDr.out.box rfl
          have c3 := blk_cell (i := 3) HDr.out.box rfl
          have c4 := blk_cell (i := 4) HDr.out.box rfl
          have c5 := blk_cell (i := 5) HDr.out.box rfl
          have r0 := blk_cell (i := 0) HDr.out.res rfl
          have f0 := blk_free (i := 0) HDr.out.res
          have r1 := blk_cell (i := 1) HDr.out.res rfl
          have f1 := blk_free (i := 1) HDr.out.res
          have r2 := blk_cell (i := 2) HDr.out.res rfl
          have f2 := blk_free (i := 2) HDr.out.res
          have r3 := blk_cell (i := 3) HDr.out.res rfl
          have f3 := blk_free (i := 3) HDr.out.res
          have r4 := blk_cell (i := 4) HDr.out.res rfl
          have f4 := blk_free (i := 4) HDr.out.res
          have r5 := blk_cell (i := 5) HDr.out.res rfl
          have f5 := blk_free (i := 5) HDr.out.res
          have RS := HDr.out.done (0) (0) (0) (0) (0) (0)
          unfold dSet at RS
          go_wp2_with fail
          have z0 := blk_cell (i := 0) RS.1 rfl
          have z1 := blk_cell (i := 1) RS.1 rfl
          have z2 := blk_cell (i := 2) RS.1 rfl
          have z3 := blk_cell (i := 3) RS.1 rfl
          have z4 := blk_cell (i := 4) RS.1 rfl
          have z5 := blk_cell (i := 5) RS.1 rfl
          exact bodyPost_ret (v := .tuple #[.agg #[.int .i64 0, .int .i64 0, .int .i64 0, .int .i64 0, .int .i64 0, .int .i64 0], .int .i64 0, .bool false]) (by simp [results, Tryz.results102, go_sem, z0, z1, z2, z3, z4, z5]) rfl (RetFo.bad hn.out RS.2)
        · have hV0 : 0 ≤ wkD tx := by omega
          by_cases h29 : tx.size = 29
          rotate_left
          · have hn := Kp.mk (HNE.out (fun h2 => by have h2 := h2.2.1; unfold f1C at h2; exact h29 (by simp only [h2])))
            have t29 : ((tx.size : Int) != 29) = true := by rw [bne_iff_ne]; omega
            clear HNE HPO
            have c0 := blk_cell (i := 0) HDr.out.box rfl
            have c1 := blk_cell (i := 1) HDr.out.box rfl
            have c2 := blk_cell (i := 2) HDr.out.box rfl
            have c3 := blk_cell (i := 3) HDr.out.box rfl
            have c4 := blk_cell (i := 4) HDr.out.box rfl
            have c5 := blk_cell (i := 5) HDr.out.box rfl
            have r0 := blk_cell (i := 0) HDr.out.res rfl
            have f0 := blk_free (i := 0) HDr.out.res
            have r1 := blk_cell (i := 1) HDr.out.res rfl
            have f1 := blk_free (i := 1) HDr.out.res
            have r2 := blk_cell (i := 2) HDr.out.res rfl
            have f2 := blk_free (i := 2) HDr.out.res
            have r3 := blk_cell (i := 3) HDr.out.res rfl
            have f3 := blk_free (i := 3) HDr.out.res
            have r4 := blk_cell (i := 4) HDr.out.res rfl
            have f4 := blk_free (i := 4) HDr.out.res
            have r5 := blk_cell (i := 5) HDr.out.res rfl
            have f5 := blk_free (i := 5) HDr.out.res
            have RS := HDr.out.done (0) (0) (0) (0) (0) (0)
            unfold dSet at RS
            go_wp2_with fail
            have z0 := blk_cell (i := 0) RS.1 rfl
            have z1 := blk_cell (i := 1) RS.1 rfl
            have z2 := blk_cell (i := 2) RS.1 rfl
            have z3 := blk_cell (i := 3) RS.1 rfl
            have z4 := blk_cell (i := 4) RS.1 rfl
            have z5 := blk_cell (i := 5) RS.1 rfl
            exact bodyPost_ret (v := .tuple #[.agg #[.int .i64 0, .int .i64 0, .int .i64 0, .int .i64 0, .int .i64 0, .int .i64 0], .int .i64 0, .bool false]) (by simp [results, Tryz.results102, go_sem, z0, z1, z2, z3, z4, z5]) rfl (RetFo.bad hn.out RS.2)
          have t29 : ((tx.size : Int) != 29) = false := by rw [bne_eq_false_iff_eq]; omega
          have q29 : (tx.size : Int) = 29 := by omega
          by_cases h3 : tx.extract 3 5 = ⟨#[44, 32]⟩
          rotate_left
          · have hn := Kp.mk (HNE.out (fun h2 => by have h2 := h2.2.1; unfold f1C at h2; exact h3 (by simp only [h2])))
            have t3 : ¬ (tx.extract 3 5).toList = [44, 32] := fun e => h3 (ba_tl6.1 (e.trans (by rw [ByteArray.toList_eq])))
            have b3 : ((tx.extract 3 5).toList == [44, 32]) = false := by rw [beq_eq_false_iff_ne]; exact t3
            clear HNE HPO
            have c0 := blk_cell (i := 0) HDr.out.box rfl
            have c1 := blk_cell (i := 1) HDr.out.box rfl
            have c2 := blk_cell (i := 2) HDr.out.box rfl
            have c3 := blk_cell (i := 3) HDr.out.box rfl
            have c4 := blk_cell (i := 4) HDr.out.box rfl
            have c5 := blk_cell (i := 5) HDr.out.box rfl
            have r0 := blk_cell (i := 0) HDr.out.res rfl
            have f0 := blk_free (i := 0) HDr.out.res
            have r1 := blk_cell (i := 1) HDr.out.res rfl
            have f1 := blk_free (i := 1) HDr.out.res
            have r2 := blk_cell (i := 2) HDr.out.res rfl
            have f2 := blk_free (i := 2) HDr.out.res
            have r3 := blk_cell (i := 3) HDr.out.res rfl
            have f3 := blk_free (i := 3) HDr.out.res
            have r4 := blk_cell (i := 4) HDr.out.res rfl
            have f4 := blk_free (i := 4) HDr.out.res
            have r5 := blk_cell (i := 5) HDr.out.res rfl
            have f5 := blk_free (i := 5) HDr.out.res
            have RS := HDr.out.done (0) (0) (0) (0) (0) (0)
            unfold dSet at RS
            go_wp2_with fail
            have z0 := blk_cell (i := 0) RS.1 rfl
            have z1 := blk_cell (i := 1) RS.1 rfl
            have z2 := blk_cell (i := 2) RS.1 rfl
            have z3 := blk_cell (i := 3) RS.1 rfl
            have z4 := blk_cell (i := 4) RS.1 rfl
            have z5 := blk_cell (i := 5) RS.1 rfl
            exact bodyPost_ret (v := .tuple #[.agg #[.int .i64 0, .int .i64 0, .int .i64 0, .int .i64 0, .int .i64 0, .int .i64 0], .int .i64 0, .bool false]) (by simp [results, Tryz.results102, go_sem, z0, z1, z2, z3, z4, z5]) rfl (RetFo.bad hn.out RS.2)
          have t3 : (tx.extract 3 5).toList = [44, 32] := by rw [h3, ByteArray.toList_eq]
          have b3 : ((tx.extract 3 5).toList == [44, 32]) = true := by rw [t3]; rfl
          by_cases h7 : bt tx 7 = 32
          rotate_left
          · have hn := Kp.mk (HNE.out (fun h2 => by have h2 := h2.2.1; unfold f1C at h2; exact h7 (by simp only [h2])))
            have g7 := bt_at tx 7 (by omega)
            have t7 : ((tx[7].toNat : Int) != 32) = true := by rw [g7, bne_iff_ne]; omega
            clear HNE HPO
            have c0 := blk_cell (i := 0) HDr.out.box rfl
            have c1 := blk_cell (i := 1) HDr.out.box rfl
            have c2 := blk_cell (i := 2) HDr.out.box rfl
            have c3 := blk_cell (i := 3) HDr.out.box rfl
            have c4 := blk_cell (i := 4) HDr.out.box rfl
            have c5 := blk_cell (i := 5) HDr.out.box rfl
            have r0 := blk_cell (i := 0) HDr.out.res rfl
            have f0 := blk_free (i := 0) HDr.out.res
            have r1 := blk_cell (i := 1) HDr.out.res rfl
            have f1 := blk_free (i := 1) HDr.out.res
            have r2 := blk_cell (i := 2) HDr.out.res rfl
            have f2 := blk_free (i := 2) HDr.out.res
            have r3 := blk_cell (i := 3) HDr.out.res rfl
            have f3 := blk_free (i := 3) HDr.out.res
            have r4 := blk_cell (i := 4) HDr.out.res rfl
            have f4 := blk_free (i := 4) HDr.out.res
            have r5 := blk_cell (i := 5) HDr.out.res rfl
            have f5 := blk_free (i := 5) HDr.out.res
            have RS := HDr.out.done (0) (0) (0) (0) (0) (0)
            unfold dSet at RS
            go_wp2_with fail
            have z0 := blk_cell (i := 0) RS.1 rfl
            have z1 := blk_cell (i := 1) RS.1 rfl
            have z2 := blk_cell (i := 2) RS.1 rfl
            have z3 := blk_cell (i := 3) RS.1 rfl
            have z4 := blk_cell (i := 4) RS.1 rfl
            have z5 := blk_cell (i := 5) RS.1 rfl
            exact bodyPost_ret (v := .tuple #[.agg #[.int .i64 0, .int .i64 0, .int .i64 0, .int .i64 0, .int .i64 0, .int .i64 0], .int .i64 0, .bool false]) (by simp [results, Tryz.results102, go_sem, z0, z1, z2, z3, z4, z5]) rfl (RetFo.bad hn.out RS.2)
          have g7 := bt_at tx 7 (by omega)
          have t7 : ((tx[7].toNat : Int) != 32) = false := by rw [g7, h7]; rfl
          by_cases h11 : bt tx 11 = 32
          rotate_left
          · have hn := Kp.mk (HNE.out (fun h2 => by have h2 := h2.2.1; unfold f1C at h2; exact h11 (by simp only [h2])))
            have g11 := bt_at tx 11 (by omega)
            have t11 : ((tx[11].toNat : Int) != 32) = true := by rw [g11, bne_iff_ne]; omega
            clear HNE HPO
            have c0 := blk_cell (i := 0) HDr.out.box rfl
            have c1 := blk_cell (i := 1) HDr.out.box rfl
            have c2 := blk_cell (i := 2) HDr.out.box rfl
            have c3 := blk_cell (i := 3) HDr.out.box rfl
            have c4 := blk_cell (i := 4) HDr.out.box rfl
            have c5 := blk_cell (i := 5) HDr.out.box rfl
            have r0 := blk_cell (i := 0) HDr.out.res rfl
            have f0 := blk_free (i := 0) HDr.out.res
            have r1 := blk_cell (i := 1) HDr.out.res rfl
            have f1 := blk_free (i := 1) HDr.out.res
            have r2 := blk_cell (i := 2) HDr.out.res rfl
            have f2 := blk_free (i := 2) HDr.out.res
            have r3 := blk_cell (i := 3) HDr.out.res rfl
            have f3 := blk_free (i := 3) HDr.out.res
            have r4 := blk_cell (i := 4) HDr.out.res rfl
            have f4 := blk_free (i := 4) HDr.out.res
            have r5 := blk_cell (i := 5) HDr.out.res rfl
            have f5 := blk_free (i := 5) HDr.out.res
            have RS := HDr.out.done (0) (0) (0) (0) (0) (0)
            unfold dSet at RS
            go_wp2_with fail
            have z0 := blk_cell (i := 0) RS.1 rfl
            have z1 := blk_cell (i := 1) RS.1 rfl
            have z2 := blk_cell (i := 2) RS.1 rfl
            have z3 := blk_cell (i := 3) RS.1 rfl
            have z4 := blk_cell (i := 4) RS.1 rfl
            have z5 := blk_cell (i := 5) RS.1 rfl
            exact bodyPost_ret (v := .tuple #[.agg #[.int .i64 0, .int .i64 0, .int .i64 0, .int .i64 0, .int .i64 0, .int .i64 0], .int .i64 0, .bool false]) (by simp [results, Tryz.results102, go_sem, z0, z1, z2, z3, z4, z5]) rfl (RetFo.bad hn.out RS.2)
          have g11 := bt_at tx 11 (by omega)
          have t11 : ((tx[11].toNat : Int) != 32) = false := by rw [g11, h11]; rfl
          by_cases h16 : bt tx 16 = 32
          rotate_left
          · have hn := Kp.mk (HNE.out (fun h2 => by have h2 := h2.2.1; unfold f1C at h2; exact h16 (by simp only [h2])))
            have g16 := bt_at tx 16 (by omega)
            have t16 : ((tx[16].toNat : Int) != 32) = true := by rw [g16, bne_iff_ne]; omega
            clear HNE HPO
            have c0 := blk_cell (i := 0) HDr.out.box rfl
            have c1 := blk_cell (i := 1) HDr.out.box rfl
            have c2 := blk_cell (i := 2) HDr.out.box rfl
            have c3 := blk_cell (i := 3) HDr.out.box rfl
            have c4 := blk_cell (i := 4) HDr.out.box rfl
            have c5 := blk_cell (i := 5) HDr.out.box rfl
            have r0 := blk_cell (i := 0) HDr.out.res rfl
            have f0 := blk_free (i := 0) HDr.out.res
            have r1 := blk_cell (i := 1) HDr.out.res rfl
            have f1 := blk_free (i := 1) HDr.out.res
            have r2 := blk_cell (i := 2) HDr.out.res rfl
            have f2 := blk_free (i := 2) HDr.out.res
            have r3 := blk_cell (i := 3) HDr.out.res rfl
            have f3 := blk_free (i := 3) HDr.out.res
            have r4 := blk_cell (i := 4) HDr.out.res rfl
            have f4 := blk_free (i := 4) HDr.out.res
            have r5 := blk_cell (i := 5) HDr.out.res rfl
            have f5 := blk_free (i := 5) HDr.out.res
            have RS := HDr.out.done (0) (0) (0) (0) (0) (0)
            unfold dSet at RS
            go_wp2_with fail
            have z0 := blk_cell (i := 0) RS.1 rfl
            have z1 := blk_cell (i := 1) RS.1 rfl
            have z2 := blk_cell (i := 2) RS.1 rfl
            have z3 := blk_cell (i := 3) RS.1 rfl
            have z4 := blk_cell (i := 4) RS.1 rfl
            have z5 := blk_cell (i := 5) RS.1 rfl
            exact bodyPost_ret (v := .tuple #[.agg #[.int .i64 0, .int .i64 0, .int .i64 0, .int .i64 0, .int .i64 0, .int .i64 0], .int .i64 0, .bool false]) (by simp [results, Tryz.results102, go_sem, z0, z1, z2, z3, z4, z5]) rfl (RetFo.bad hn.out RS.2)
          have g16 := bt_at tx 16 (by omega)
          have t16 : ((tx[16].toNat : Int) != 32) = false := by rw [g16, h16]; rfl
          by_cases h25 : tx.extract 25 29 = ⟨#[32, 71, 77, 84]⟩
          rotate_left
          · have hn := Kp.mk (HNE.out (fun h2 => by have h2 := h2.2.1; unfold f1C at h2; exact h25 (by simp only [h2])))
            have t25 : ¬ (tx.extract 25 29).toList = [32, 71, 77, 84] := fun e => h25 (ba_tl6.1 (e.trans (by rw [ByteArray.toList_eq])))
            have b25 : ((tx.extract 25 29).toList == [32, 71, 77, 84]) = false := by rw [beq_eq_false_iff_ne]; exact t25
            clear HNE HPO
            have c0 := blk_cell (i := 0) HDr.out.box rfl
            have c1 := blk_cell (i := 1) HDr.out.box rfl
            have c2 := blk_cell (i := 2) HDr.out.box rfl
            have c3 := blk_cell (i := 3) HDr.out.box rfl
            have c4 := blk_cell (i := 4) HDr.out.box rfl
            have c5 := blk_cell (i := 5) HDr.out.box rfl
            have r0 := blk_cell (i := 0) HDr.out.res rfl
            have f0 := blk_free (i := 0) HDr.out.res
            have r1 := blk_cell (i := 1) HDr.out.res rfl
            have f1 := blk_free (i := 1) HDr.out.res
            have r2 := blk_cell (i := 2) HDr.out.res rfl
            have f2 := blk_free (i := 2) HDr.out.res
            have r3 := blk_cell (i := 3) HDr.out.res rfl
            have f3 := blk_free (i := 3) HDr.out.res
            have r4 := blk_cell (i := 4) HDr.out.res rfl
            have f4 := blk_free (i := 4) HDr.out.res
            have r5 := blk_cell (i := 5) HDr.out.res rfl
            have f5 := blk_free (i := 5) HDr.out.res
            have RS := HDr.out.done (0) (0) (0) (0) (0) (0)
            unfold dSet at RS
            go_wp2_with fail
            have z0 := blk_cell (i := 0) RS.1 rfl
            have z1 := blk_cell (i := 1) RS.1 rfl
            have z2 := blk_cell (i := 2) RS.1 rfl
            have z3 := blk_cell (i := 3) RS.1 rfl
            have z4 := blk_cell (i := 4) RS.1 rfl
            have z5 := blk_cell (i := 5) RS.1 rfl
            exact bodyPost_ret (v := .tuple #[.agg #[.int .i64 0, .int .i64 0, .int .i64 0, .int .i64 0, .int .i64 0, .int .i64 0], .int .i64 0, .bool false]) (by simp [results, Tryz.results102, go_sem, z0, z1, z2, z3, z4, z5]) rfl (RetFo.bad hn.out RS.2)
          have t25 : (tx.extract 25 29).toList = [32, 71, 77, 84] := by rw [h25, ByteArray.toList_eq]
          have b25 : ((tx.extract 25 29).toList == [32, 71, 77, 84]) = true := by rw [t25]; rfl
          have hmr := ixD_range 12 moS (tx.extract 8 11)
          have hwm : IntKind.i64.wrap (ixD 12 moS (tx.extract 8 11) + 1) = ixD 12 moS (tx.extract 8 11) + 1 := wrapQ _ (by omega) (by omega)
          have b2 := blk_cell (i := 2) HDr.out.box rfl
          have g2 := blk_free (i := 2) HDr.out.box
          go_wp2_with fail
          refine (dnumber_any _ _ (by simp [maxLen]; omega)).mono ?_
          rintro e w1 ⟨rfl, rfl⟩
          have HD1 := Kp.mk (HDr.out.setD (nmQ (tx.extract 5 7)))
          go_upto_region 33 with fail
          clear b2 g2
          refine wp_region_held_drew (S := fun _ => True) (by kernel_rfl) (trivial) (fun hHeld => ?_)
          refine wpAnyH_take (i := 1) (oi := ⟨some 191, .move (.tmp 0), _, _, _, none⟩) (v := ?_) rfl (by kernel_rfl) (by kernel_rfl) (by kernel_rfl) (fun _ _ _ h => h) (Or.inl ⟨by rfl, ?_⟩) (by assumption) ?_
          rotate_left
          · intro w hSw
            try dsimp only at hSw
            go_simp
            try with_reducible rfl
          try simp only [Act.put, List.setIfInBounds_toArray, List.set_cons_zero, List.set_cons_succ]
          refine wpAnyH_take (i := 2) (oi := ⟨some 192, .slice 9 (.tmp 191) (some (.const (.int .i64 8))) (some (.const (.int .i64 11))) none, _, _, _, none⟩) (v := ?_) rfl (by kernel_rfl) (by kernel_rfl) (by kernel_rfl) (fun _ _ _ h => h) (Or.inl ⟨by rfl, ?_⟩) (by assumption) ?_
          rotate_left
          · intro w hSw
            try dsimp only at hSw
            go_simp
            try with_reducible rfl
          try simp only [Act.put, List.setIfInBounds_toArray, List.set_cons_zero, List.set_cons_succ]
          refine wpAnyH_ready (rs := [0]) (by kernel_rfl) (by simp) ?_
          refine AllReadyH.cons (o := ⟨some 190, _, _, _, _, none⟩) rfl (fun K hK => ?_) AllReadyH.nil
          go_simp
          (go_at_call 107; refine (rmonths6_any _).mono ?_; rintro e wn ⟨rfl, hb, hk⟩)
          replace hk := (show wn.heap[w1.heap.size]? = some (.cells moC 9 (0, 0)) by simpa using hk)
          have HK := Kp.mk hk
          have HD2 := Kp.mk (HD1.out.below ((gdrewN _ 1).trans hb))
          clear hb hk
          try go_wp2_with fail
          refine hK.out _ _ (trivial) (fun hHeld2 => ?_)
          clear hK K
          try simp only [Act.put, List.setIfInBounds_toArray, List.set_cons_zero, List.set_cons_succ]
          refine wpAnyH_ready (rs := [3]) (by kernel_rfl) (by simp) ?_
          refine AllReadyH.cons (o := ⟨some 193, _, _, _, _, none⟩) rfl (fun K hK => ?_) AllReadyH.nil
          go_simp
          (go_at_call 127; refine (dindex_any 12 moS moC _ _ _ (by decide) (fun k h => moC_at k h) HK.out).mono ?_; rintro e wn2 ⟨rfl, hb⟩)
          replace HD2 := Kp.mk (HD2.out.below hb)
          have c1 := blk_cell (i := 1) HD2.out.box rfl
          have g1 := blk_free (i := 1) HD2.out.box
          clear hb
          try go_wp2_with fail
          refine hK.out _ _ (trivial) (fun hHeld2 => ?_)
          clear hK K
          try simp only [Act.put, List.setIfInBounds_toArray, List.set_cons_zero, List.set_cons_succ]
          refine wpAnyH_take (i := 4) (oi := ⟨some 194, .binOp .add 3 (.tmp 193) (.const (.int .i64 1)) 3, _, _, _, none⟩) (v := ?_) rfl (by kernel_rfl) (by kernel_rfl) (by kernel_rfl) (fun _ _ _ h => h) (Or.inl ⟨by rfl, ?_⟩) (by assumption) ?_
          rotate_left
          · intro w hSw
            try dsimp only at hSw
            go_simp
            try with_reducible rfl
          try simp only [Act.put, List.setIfInBounds_toArray, List.set_cons_zero, List.set_cons_succ]
          refine wpAnyH_take (i := 5) (oi := ⟨some 195, .fieldAddr 66 (.tmp 9) 1, _, _, _, none⟩) (v := ?_) rfl (by kernel_rfl) (by kernel_rfl) (by kernel_rfl) (fun _ _ _ h => h) (Or.inl ⟨by rfl, ?_⟩) (by assumption) ?_
          rotate_left
          · intro w hSw
            try dsimp only at hSw
            go_simp
            try with_reducible rfl
          try simp only [Act.put, List.setIfInBounds_toArray, List.set_cons_zero, List.set_cons_succ]
          refine wpAnyH_ready (rs := [6]) (by kernel_rfl) (by simp) ?_
          refine AllReadyH.cons (o := ⟨none, _, _, _, _, none⟩) rfl (fun K hK => ?_) AllReadyH.nil
          go_simp
          refine hK.out _ _ (trivial) (fun hHeld2 => ?_)
          clear hK K
          try simp only [Act.put, List.setIfInBounds_toArray, List.set_cons_zero, List.set_cons_succ]
          refine wpAnyH_done (by kernel_rfl) ?_ _
          have HD3 := Kp.mk (HD2.out.setM (ixD 12 moS (tx.extract 8 11) + 1))
          clear c1 g1
          have c0 := blk_cell (i := 0) HD3.out.box rfl
          have g0 := blk_free (i := 0) HD3.out.box
          go_wp2_with fail
          refine (dnumber_any _ _ (by simp [maxLen]; omega)).mono ?_
          rintro e w2 ⟨rfl, rfl⟩
          have HD4 := Kp.mk (HD3.out.setY (nmQ (tx.extract 12 16)))
          go_upto_region 35 with fail
          clear c0 g0
          generalize hW4 : ((wn2.setCell ⟨w.heap.size + 1, 1, none⟩ (.int .i64 (ixD 12 moS (tx.extract 8 11) + 1))).setCell ⟨w.heap.size + 1, 0, none⟩ (.int .i64 (nmQ (tx.extract 12 16)))) = W4 at *
          obtain ⟨BB, th, tm, ts, hTT, hBB⟩ := dtime_any6 (tx.extract 17 25) (nmQ (tx.extract 12 16)) (ixD 12 moS (tx.extract 8 11) + 1) (nmQ (tx.extract 5 7)) (by simp; omega)
          have HTT := Kp.mk hTT
          have HBB := Kp.mk hBB
          clear hTT hBB hW4
          go_cut [18, 19] (fun a b wx => ∃ sh : Nat, a = .pointer (some ⟨sh, 0, none⟩) ∧ b = .bool BB ∧ SH w sh (nmQ (tx.extract 12 16)) ((ixD 12 moS (tx.extract 8 11) + 1)) (nmQ (tx.extract 5 7)) (th) (tm) (ts) wx)
          case first =>
            refine wp_region_held_drew (S := fun w' => w'.cell? ⟨w.heap.size + 1, 0, none⟩ = some (.int .i64 (nmQ (tx.extract 12 16))) ∧ w'.cell? ⟨w.heap.size + 1, 1, none⟩ = some (.int .i64 ((ixD 12 moS (tx.extract 8 11) + 1))) ∧ w'.cell? ⟨w.heap.size + 1, 2, none⟩ = some (.int .i64 (nmQ (tx.extract 5 7))) ∧ w'.cell? ⟨w.heap.size + 1, 3, none⟩ = some (.int .i64 0) ∧ w'.cell? ⟨w.heap.size + 1, 4, none⟩ = some (.int .i64 0) ∧ w'.cell? ⟨w.heap.size + 1, 5, none⟩ = some (.int .i64 0)) (by kernel_rfl) (cells6D HD4.out.box) (fun hHeld => ?_)
            refine wpAnyH_take (i := 0) (oi := ⟨some 201, .move (.tmp 0), _, _, _, none⟩) (v := ?_) rfl (by kernel_rfl) (by kernel_rfl) (by kernel_rfl) (fun _ _ _ h => h) (Or.inl ⟨by rfl, ?_⟩) (by assumption) ?_
            rotate_left
            · intro w hSw
              try dsimp only at hSw
              go_simp
              try with_reducible rfl
            try simp only [Act.put, List.setIfInBounds_toArray, List.set_cons_zero, List.set_cons_succ]
            refine wpAnyH_take (i := 1) (oi := ⟨some 202, .slice 9 (.tmp 201) (some (.const (.int .i64 17))) (some (.const (.int .i64 25))) none, _, _, _, none⟩) (v := ?_) rfl (by kernel_rfl) (by kernel_rfl) (by kernel_rfl) (fun _ _ _ h => h) (Or.inl ⟨by rfl, ?_⟩) (by assumption) ?_
            rotate_left
            · intro w hSw
              try dsimp only at hSw
              go_simp
              try with_reducible rfl
            try simp only [Act.put, List.setIfInBounds_toArray, List.set_cons_zero, List.set_cons_succ]
            refine wpAnyH_take (i := 2) (oi := ⟨some 203, .load 66 (.tmp 9), _, _, _, none⟩) (v := ?_) rfl (by kernel_rfl) (by kernel_rfl) (by kernel_rfl) (fun _ _ _ h => h) (Or.inl ⟨by rfl, ?_⟩) (by assumption) ?_
            rotate_left
            · intro w hSw
              try dsimp only at hSw
              go_simp
              try with_reducible rfl
            try simp only [Act.put, List.setIfInBounds_toArray, List.set_cons_zero, List.set_cons_succ]
            refine wpAnyH_ready (rs := [3, 7]) (by kernel_rfl) (by simp) ?_
            refine AllReadyH.cons (o := ⟨some 204, _, _, _, _, none⟩) rfl (fun K hK => ?_) (AllReadyH.cons (o := ⟨some 18, _, _, _, _, none⟩) rfl (fun K hK => ?_) AllReadyH.nil)
            · go_simp
              (go_at_call 129; refine (HTT.out _).mono ?_; rintro e w5 ⟨rfl, hb⟩)
              have HD5 := Kp.mk (HD4.out.below ((gdrewN _ 1).trans hb))
              clear hb
              try go_wp2_with fail
              refine hK.out _ _ (cells6D HD5.out.box) (fun hHeld2 => ?_)
              clear hK K
              try simp only [Act.put, List.setIfInBounds_toArray, List.set_cons_zero, List.set_cons_succ]
              refine wpAnyH_take (i := 4) (oi := ⟨some 200, .move (.tmp 204), _, _, _, none⟩) (v := ?_) rfl (by kernel_rfl) (by kernel_rfl) (by kernel_rfl) (fun _ _ _ h => h) (Or.inl ⟨by rfl, ?_⟩) (by assumption) ?_
              rotate_left
              · intro w hSw
                try dsimp only at hSw
                go_simp
                try with_reducible rfl
              try simp only [Act.put, List.setIfInBounds_toArray, List.set_cons_zero, List.set_cons_succ]
              refine wpAnyH_take (i := 5) (oi := ⟨some 205, .extract (.tmp 200) 0, _, _, _, none⟩) (v := ?_) rfl (by kernel_rfl) (by kernel_rfl) (by kernel_rfl) (fun _ _ _ h => h) (Or.inl ⟨by rfl, ?_⟩) (by assumption) ?_
              rotate_left
              · intro w hSw
                try dsimp only at hSw
                go_simp
                try with_reducible rfl
              try simp only [Act.put, List.setIfInBounds_toArray, List.set_cons_zero, List.set_cons_succ]
              refine wpAnyH_take (i := 6) (oi := ⟨some 206, .extract (.tmp 200) 1, _, _, _, none⟩) (v := ?_) rfl (by kernel_rfl) (by kernel_rfl) (by kernel_rfl) (fun _ _ _ h => h) (Or.inl ⟨by rfl, ?_⟩) (by assumption) ?_
              rotate_left
              · intro w hSw
                try dsimp only at hSw
                go_simp
                try with_reducible rfl
              try simp only [Act.put, List.setIfInBounds_toArray, List.set_cons_zero, List.set_cons_succ]
              refine wpAnyH_ready (rs := [7]) (by kernel_rfl) (by simp) ?_
              refine AllReadyH.cons (o := ⟨some 18, _, _, _, _, none⟩) rfl (fun K hK => ?_) AllReadyH.nil
              go_simp
              refine hK.out _ _ (cells6D (blk_alloc HD5.out.box)) (fun hHeld2 => ?_)
              clear hK K
              try simp only [Act.put, List.setIfInBounds_toArray, List.set_cons_zero, List.set_cons_succ]
              refine wpAnyH_ready (rs := [8]) (by kernel_rfl) (by simp) ?_
              refine AllReadyH.cons (o := ⟨none, _, _, _, _, none⟩) rfl (fun K hK => ?_) AllReadyH.nil
              go_simp
              refine hK.out _ _ (cells6D (blk_alloc HD5.out.box)) (fun hHeld2 => ?_)
              clear hK K
              try simp only [Act.put, List.setIfInBounds_toArray, List.set_cons_zero, List.set_cons_succ]
              refine wpAnyH_take (i := 9) (oi := ⟨some 19, .assign (.tmp 206), _, _, _, none⟩) (v := ?_) rfl (by kernel_rfl) (by kernel_rfl) (by kernel_rfl) (fun _ _ _ h => h) (Or.inl ⟨by rfl, ?_⟩) (by assumption) ?_
              rotate_left
              · intro w hSw
                try dsimp only at hSw
                go_simp
                try with_reducible rfl
              try simp only [Act.put, List.setIfInBounds_toArray, List.set_cons_zero, List.set_cons_succ]
              refine wpAnyH_done (by kernel_rfl) ?_ _
              go_wp2_with fail
              go_meet
              exact ⟨_, rfl, rfl, SH.new HD5.out (nmQ (tx.extract 12 16)) ((ixD 12 moS (tx.extract 8 11) + 1)) (nmQ (tx.extract 5 7)) (th) (tm) (ts)⟩
            · go_simp
              refine hK.out _ _ (cells6D (blk_alloc HD4.out.box)) (fun hHeld2 => ?_)
              clear hK K
              try simp only [Act.put, List.setIfInBounds_toArray, List.set_cons_zero, List.set_cons_succ]
              have HNB := Kp.mk (show ((W4.drew).alloc (.cells #[.int .i64 0, .int .i64 0, .int .i64 0, .int .i64 0, .int .i64 0, .int .i64 0] 66)).heap[W4.heap.size]? = some (.cells #[.int .i64 0, .int .i64 0, .int .i64 0, .int .i64 0, .int .i64 0, .int .i64 0] 66 (0, 0)) from heap_alloc_new (W4.drew) (.cells #[.int .i64 0, .int .i64 0, .int .i64 0, .int .i64 0, .int .i64 0, .int .i64 0] 66))
              have HD4b := Kp.mk (HD4.out.below (((Below.refl W4.heap.size W4).drew).alloc (Nat.le_refl _) (.cells #[.int .i64 0, .int .i64 0, .int .i64 0, .int .i64 0, .int .i64 0, .int .i64 0] 66)))
              refine wpAnyH_ready (rs := [3]) (by kernel_rfl) (by simp) ?_
              refine AllReadyH.cons (o := ⟨some 204, _, _, _, _, none⟩) rfl (fun K hK => ?_) AllReadyH.nil
              go_simp
              (go_at_call 129; refine (HTT.out _).mono ?_; rintro e w5 ⟨rfl, hb⟩)
              have HD5 := Kp.mk (HD4b.out.below hb)
              have HNC := Kp.mk ((hb.block _ (blk_lt HNB.out)).trans HNB.out)
              have n0 := blk_cell (i := 0) HNC.out rfl
              have o0 := blk_free (i := 0) HNC.out
              have n1 := blk_cell (i := 1) HNC.out rfl
              have o1 := blk_free (i := 1) HNC.out
              have n2 := blk_cell (i := 2) HNC.out rfl
              have o2 := blk_free (i := 2) HNC.out
              have n3 := blk_cell (i := 3) HNC.out rfl
              have o3 := blk_free (i := 3) HNC.out
              have n4 := blk_cell (i := 4) HNC.out rfl
              have o4 := blk_free (i := 4) HNC.out
              have n5 := blk_cell (i := 5) HNC.out rfl
              have o5 := blk_free (i := 5) HNC.out
              clear hb
              try go_wp2_with fail
              refine hK.out _ _ (cells6D HD5.out.box) (fun hHeld2 => ?_)
              clear hK K
              try simp only [Act.put, List.setIfInBounds_toArray, List.set_cons_zero, List.set_cons_succ]
              refine wpAnyH_take (i := 4) (oi := ⟨some 200, .move (.tmp 204), _, _, _, none⟩) (v := ?_) rfl (by kernel_rfl) (by kernel_rfl) (by kernel_rfl) (fun _ _ _ h => h) (Or.inl ⟨by rfl, ?_⟩) (by assumption) ?_
              rotate_left
              · intro w hSw
                try dsimp only at hSw
                go_simp
                try with_reducible rfl
              try simp only [Act.put, List.setIfInBounds_toArray, List.set_cons_zero, List.set_cons_succ]
              refine wpAnyH_take (i := 5) (oi := ⟨some 205, .extract (.tmp 200) 0, _, _, _, none⟩) (v := ?_) rfl (by kernel_rfl) (by kernel_rfl) (by kernel_rfl) (fun _ _ _ h => h) (Or.inl ⟨by rfl, ?_⟩) (by assumption) ?_
              rotate_left
              · intro w hSw
                try dsimp only at hSw
                go_simp
                try with_reducible rfl
              try simp only [Act.put, List.setIfInBounds_toArray, List.set_cons_zero, List.set_cons_succ]
              refine wpAnyH_take (i := 6) (oi := ⟨some 206, .extract (.tmp 200) 1, _, _, _, none⟩) (v := ?_) rfl (by kernel_rfl) (by kernel_rfl) (by kernel_rfl) (fun _ _ _ h => h) (Or.inl ⟨by rfl, ?_⟩) (by assumption) ?_
              rotate_left
              · intro w hSw
                try dsimp only at hSw
                go_simp
                try with_reducible rfl
              try simp only [Act.put, List.setIfInBounds_toArray, List.set_cons_zero, List.set_cons_succ]
              have hshb : w.heap.size < W4.heap.size := Nat.lt_of_succ_lt (blk_lt HD4.out.box)
              refine wpAnyH_ready (rs := [8]) (by kernel_rfl) (by simp) ?_
              refine AllReadyH.cons (o := ⟨none, _, _, _, _, none⟩) rfl (fun K hK => ?_) AllReadyH.nil
              go_simp
              refine hK.out _ _ (cells6D ((SH.two HD5.out HNC.out hshb (by have := blk_lt HD4.out.box; omega) (nmQ (tx.extract 12 16)) ((ixD 12 moS (tx.extract 8 11) + 1)) (nmQ (tx.extract 5 7)) (th) (tm) (ts)).2)) (fun hHeld2 => ?_)
              clear hK K
              try simp only [Act.put, List.setIfInBounds_toArray, List.set_cons_zero, List.set_cons_succ]
              refine wpAnyH_take (i := 9) (oi := ⟨some 19, .assign (.tmp 206), _, _, _, none⟩) (v := ?_) rfl (by kernel_rfl) (by kernel_rfl) (by kernel_rfl) (fun _ _ _ h => h) (Or.inl ⟨by rfl, ?_⟩) (by assumption) ?_
              rotate_left
              · intro w hSw
                try dsimp only at hSw
                go_simp
                try with_reducible rfl
              try simp only [Act.put, List.setIfInBounds_toArray, List.set_cons_zero, List.set_cons_succ]
              refine wpAnyH_done (by kernel_rfl) ?_ _
              go_wp2_with fail
              go_meet
              exact ⟨_, rfl, rfl, SH.set (cs := (_, _, _, _, _, _)) HD5.out hshb HNC.out (nmQ (tx.extract 12 16)) ((ixD 12 moS (tx.extract 8 11) + 1)) (nmQ (tx.extract 5 7)) (th) (tm) (ts)⟩
          case rest =>
            obtain ⟨sh, rfl, rfl, hS⟩ := hcut
            have HS := Kp.mk hS
            clear hS HD4
            rcases HBB.out with ⟨rfl, hT, hH, rfl, rfl, rfl⟩ | ⟨rfl, hb⟩
            rotate_left
            · skip
              have hn := Kp.mk (HNE.out (fun h => hb ⟨h.2.2.1, h.2.2.2.1⟩))
              clear HNE HPO HBB HTT
              clear hb
              generalize nmQ (tx.extract 5 7) = D at *
              generalize ixD 12 moS (tx.extract 8 11) + 1 = MM at *
              generalize nmQ (tx.extract 12 16) = Y at *
              generalize wkD tx = WK at *
              have x0 := blk_cell (i := 0) HS.out.box rfl
              have r0 := blk_cell (i := 0) HS.out.res rfl
              have f0 := blk_free (i := 0) HS.out.res
              have x1 := blk_cell (i := 1) HS.out.box rfl
              have r1 := blk_cell (i := 1) HS.out.res rfl
              have f1 := blk_free (i := 1) HS.out.res
              have x2 := blk_cell (i := 2) HS.out.box rfl
              have r2 := blk_cell (i := 2) HS.out.res rfl
              have f2 := blk_free (i := 2) HS.out.res
              have x3 := blk_cell (i := 3) HS.out.box rfl
              have r3 := blk_cell (i := 3) HS.out.res rfl
              have f3 := blk_free (i := 3) HS.out.res
              have x4 := blk_cell (i := 4) HS.out.box rfl
              have r4 := blk_cell (i := 4) HS.out.res rfl
              have f4 := blk_free (i := 4) HS.out.res
              have x5 := blk_cell (i := 5) HS.out.box rfl
              have r5 := blk_cell (i := 5) HS.out.res rfl
              have f5 := blk_free (i := 5) HS.out.res
              have hne : ¬ sh = w.heap.size := Nat.ne_of_gt HS.out.lt
              have hne2 : ¬ w.heap.size = sh := Nat.ne_of_lt HS.out.lt
              have RS := HS.out.fin Y MM D th tm ts
              unfold dSet at RS
              go_upto_region 36 with fail
              go_region
              go_wp2_with fail
              have z0 := blk_cell (i := 0) RS.1 rfl
              have z1 := blk_cell (i := 1) RS.1 rfl
              have z2 := blk_cell (i := 2) RS.1 rfl
              have z3 := blk_cell (i := 3) RS.1 rfl
              have z4 := blk_cell (i := 4) RS.1 rfl
              have z5 := blk_cell (i := 5) RS.1 rfl
              exact bodyPost_ret (v := .tuple #[.agg #[.int .i64 Y, .int .i64 MM, .int .i64 D, .int .i64 th, .int .i64 tm, .int .i64 ts], .int .i64 WK, .bool false]) (by simp [results, Tryz.results102, go_sem, z0, z1, z2, z3, z4, z5]) rfl (RetFo.bad hn.out RS.2)
            by_cases hd : 0 ≤ nmQ (tx.extract 5 7)
            rotate_left
            · skip
              have hn := Kp.mk (HNE.out (fun h => hd h.2.2.2.2.1))
              clear HNE HPO HBB HTT
              have pd : nmQ (tx.extract 5 7) < 0 := by omega
              have pd2 : decide (0 ≤ nmQ (tx.extract 5 7)) = false := decide_eq_false hd
              generalize nmQ (tx.extract 5 7) = D at *
              generalize ixD 12 moS (tx.extract 8 11) + 1 = MM at *
              generalize nmQ (tx.extract 12 16) = Y at *
              generalize nmQ ((tx.extract 17 25).extract 0 2) = th at *
              generalize nmQ ((tx.extract 17 25).extract 3 5) = tm at *
              generalize nmQ ((tx.extract 17 25).extract 6 (tx.extract 17 25).size) = ts at *
              generalize wkD tx = WK at *
              have x0 := blk_cell (i := 0) HS.out.box rfl
              have r0 := blk_cell (i := 0) HS.out.res rfl
              have f0 := blk_free (i := 0) HS.out.res
              have x1 := blk_cell (i := 1) HS.out.box rfl
              have r1 := blk_cell (i := 1) HS.out.res rfl
              have f1 := blk_free (i := 1) HS.out.res
              have x2 := blk_cell (i := 2) HS.out.box rfl
              have r2 := blk_cell (i := 2) HS.out.res rfl
              have f2 := blk_free (i := 2) HS.out.res
              have x3 := blk_cell (i := 3) HS.out.box rfl
              have r3 := blk_cell (i := 3) HS.out.res rfl
              have f3 := blk_free (i := 3) HS.out.res
              have x4 := blk_cell (i := 4) HS.out.box rfl
              have r4 := blk_cell (i := 4) HS.out.res rfl
              have f4 := blk_free (i := 4) HS.out.res
              have x5 := blk_cell (i := 5) HS.out.box rfl
              have r5 := blk_cell (i := 5) HS.out.res rfl
              have f5 := blk_free (i := 5) HS.out.res
              have hne : ¬ sh = w.heap.size := Nat.ne_of_gt HS.out.lt
              have hne2 : ¬ w.heap.size = sh := Nat.ne_of_lt HS.out.lt
              have RS := HS.out.fin Y MM D th tm ts
              unfold dSet at RS
              go_upto_region 36 with fail
              go_region
              go_wp2_with fail
              have z0 := blk_cell (i := 0) RS.1 rfl
              have z1 := blk_cell (i := 1) RS.1 rfl
              have z2 := blk_cell (i := 2) RS.1 rfl
              have z3 := blk_cell (i := 3) RS.1 rfl
              have z4 := blk_cell (i := 4) RS.1 rfl
              have z5 := blk_cell (i := 5) RS.1 rfl
              exact bodyPost_ret (v := .tuple #[.agg #[.int .i64 Y, .int .i64 MM, .int .i64 D, .int .i64 th, .int .i64 tm, .int .i64 ts], .int .i64 WK, .bool false]) (by simp [results, Tryz.results102, go_sem, z0, z1, z2, z3, z4, z5]) rfl (RetFo.bad hn.out RS.2)
            have pd2 : decide (0 ≤ nmQ (tx.extract 5 7)) = true := decide_eq_true hd
            by_cases hm : 1 ≤ ixD 12 moS (tx.extract 8 11) + 1
            rotate_left
            · skip
              have hn := Kp.mk (HNE.out (fun h => hm h.2.2.2.2.2.1))
              clear HNE HPO HBB HTT
              have pm : ixD 12 moS (tx.extract 8 11) + 1 < 1 := by omega
              have pm2 : decide (1 ≤ ixD 12 moS (tx.extract 8 11) + 1) = false := decide_eq_false hm
              generalize nmQ (tx.extract 5 7) = D at *
              generalize ixD 12 moS (tx.extract 8 11) + 1 = MM at *
              generalize nmQ (tx.extract 12 16) = Y at *
              generalize nmQ ((tx.extract 17 25).extract 0 2) = th at *
              generalize nmQ ((tx.extract 17 25).extract 3 5) = tm at *
              generalize nmQ ((tx.extract 17 25).extract 6 (tx.extract 17 25).size) = ts at *
              generalize wkD tx = WK at *
              have x0 := blk_cell (i := 0) HS.out.box rfl
              have r0 := blk_cell (i := 0) HS.out.res rfl
              have f0 := blk_free (i := 0) HS.out.res
              have x1 := blk_cell (i := 1) HS.out.box rfl
              have r1 := blk_cell (i := 1) HS.out.res rfl
              have f1 := blk_free (i := 1) HS.out.res
              have x2 := blk_cell (i := 2) HS.out.box rfl
              have r2 := blk_cell (i := 2) HS.out.res rfl
              have f2 := blk_free (i := 2) HS.out.res
              have x3 := blk_cell (i := 3) HS.out.box rfl
              have r3 := blk_cell (i := 3) HS.out.res rfl
              have f3 := blk_free (i := 3) HS.out.res
              have x4 := blk_cell (i := 4) HS.out.box rfl
              have r4 := blk_cell (i := 4) HS.out.res rfl
              have f4 := blk_free (i := 4) HS.out.res
              have x5 := blk_cell (i := 5) HS.out.box rfl
              have r5 := blk_cell (i := 5) HS.out.res rfl
              have f5 := blk_free (i := 5) HS.out.res
              have hne : ¬ sh = w.heap.size := Nat.ne_of_gt HS.out.lt
              have hne2 : ¬ w.heap.size = sh := Nat.ne_of_lt HS.out.lt
              have RS := HS.out.fin Y MM D th tm ts
              unfold dSet at RS
              go_upto_region 36 with fail
              go_region
              go_wp2_with fail
              have z0 := blk_cell (i := 0) RS.1 rfl
              have z1 := blk_cell (i := 1) RS.1 rfl
              have z2 := blk_cell (i := 2) RS.1 rfl
              have z3 := blk_cell (i := 3) RS.1 rfl
              have z4 := blk_cell (i := 4) RS.1 rfl
              have z5 := blk_cell (i := 5) RS.1 rfl
              exact bodyPost_ret (v := .tuple #[.agg #[.int .i64 Y, .int .i64 MM, .int .i64 D, .int .i64 th, .int .i64 tm, .int .i64 ts], .int .i64 WK, .bool false]) (by simp [results, Tryz.results102, go_sem, z0, z1, z2, z3, z4, z5]) rfl (RetFo.bad hn.out RS.2)
            have pm2 : decide (1 ≤ ixD 12 moS (tx.extract 8 11) + 1) = true := decide_eq_true hm
            by_cases hy : 0 ≤ nmQ (tx.extract 12 16)
            rotate_left
            · skip
              have hn := Kp.mk (HNE.out (fun h => hy h.2.2.2.2.2.2))
              clear HNE HPO HBB HTT
              have py : nmQ (tx.extract 12 16) < 0 := by omega
              have py2 : decide (0 ≤ nmQ (tx.extract 12 16)) = false := decide_eq_false hy
              generalize nmQ (tx.extract 5 7) = D at *
              generalize ixD 12 moS (tx.extract 8 11) + 1 = MM at *
              generalize nmQ (tx.extract 12 16) = Y at *
              generalize nmQ ((tx.extract 17 25).extract 0 2) = th at *
              generalize nmQ ((tx.extract 17 25).extract 3 5) = tm at *
              generalize nmQ ((tx.extract 17 25).extract 6 (tx.extract 17 25).size) = ts at *
              generalize wkD tx = WK at *
              have x0 := blk_cell (i := 0) HS.out.box rfl
              have r0 := blk_cell (i := 0) HS.out.res rfl
              have f0 := blk_free (i := 0) HS.out.res
              have x1 := blk_cell (i := 1) HS.out.box rfl
              have r1 := blk_cell (i := 1) HS.out.res rfl
              have f1 := blk_free (i := 1) HS.out.res
              have x2 := blk_cell (i := 2) HS.out.box rfl
              have r2 := blk_cell (i := 2) HS.out.res rfl
              have f2 := blk_free (i := 2) HS.out.res
              have x3 := blk_cell (i := 3) HS.out.box rfl
              have r3 := blk_cell (i := 3) HS.out.res rfl
              have f3 := blk_free (i := 3) HS.out.res
              have x4 := blk_cell (i := 4) HS.out.box rfl
              have r4 := blk_cell (i := 4) HS.out.res rfl
              have f4 := blk_free (i := 4) HS.out.res
              have x5 := blk_cell (i := 5) HS.out.box rfl
              have r5 := blk_cell (i := 5) HS.out.res rfl
              have f5 := blk_free (i := 5) HS.out.res
              have hne : ¬ sh = w.heap.size := Nat.ne_of_gt HS.out.lt
              have hne2 : ¬ w.heap.size = sh := Nat.ne_of_lt HS.out.lt
              have RS := HS.out.fin Y MM D th tm ts
              unfold dSet at RS
              go_upto_region 36 with fail
              go_region
              go_wp2_with fail
              have z0 := blk_cell (i := 0) RS.1 rfl
              have z1 := blk_cell (i := 1) RS.1 rfl
              have z2 := blk_cell (i := 2) RS.1 rfl
              have z3 := blk_cell (i := 3) RS.1 rfl
              have z4 := blk_cell (i := 4) RS.1 rfl
              have z5 := blk_cell (i := 5) RS.1 rfl
              exact bodyPost_ret (v := .tuple #[.agg #[.int .i64 Y, .int .i64 MM, .int .i64 D, .int .i64 th, .int .i64 tm, .int .i64 ts], .int .i64 WK, .bool false]) (by simp [results, Tryz.results102, go_sem, z0, z1, z2, z3, z4, z5]) rfl (RetFo.bad hn.out RS.2)
            have py2 : decide (0 ≤ nmQ (tx.extract 12 16)) = true := decide_eq_true hy
            · skip
              have hn := Kp.mk (show fo1 tx = some ⟨[], nmQ (tx.extract 12 16), ixD 12 moS (tx.extract 8 11) + 1, nmQ (tx.extract 5 7), nmQ ((tx.extract 17 25).extract 0 2), nmQ ((tx.extract 17 25).extract 3 5), nmQ ((tx.extract 17 25).extract 6 (tx.extract 17 25).size), wkD tx⟩ from HPO.out ⟨hV0, ⟨h29, h3, h7, h11, h16, h25⟩, hT, hH, hd, hm, hy⟩)
              clear HNE HPO HBB HTT
              skip
              generalize nmQ (tx.extract 5 7) = D at *
              generalize ixD 12 moS (tx.extract 8 11) + 1 = MM at *
              generalize nmQ (tx.extract 12 16) = Y at *
              generalize nmQ ((tx.extract 17 25).extract 0 2) = th at *
              generalize nmQ ((tx.extract 17 25).extract 3 5) = tm at *
              generalize nmQ ((tx.extract 17 25).extract 6 (tx.extract 17 25).size) = ts at *
              generalize wkD tx = WK at *
              have x0 := blk_cell (i := 0) HS.out.box rfl
              have r0 := blk_cell (i := 0) HS.out.res rfl
              have f0 := blk_free (i := 0) HS.out.res
              have x1 := blk_cell (i := 1) HS.out.box rfl
              have r1 := blk_cell (i := 1) HS.out.res rfl
              have f1 := blk_free (i := 1) HS.out.res
              have x2 := blk_cell (i := 2) HS.out.box rfl
              have r2 := blk_cell (i := 2) HS.out.res rfl
              have f2 := blk_free (i := 2) HS.out.res
              have x3 := blk_cell (i := 3) HS.out.box rfl
              have r3 := blk_cell (i := 3) HS.out.res rfl
              have f3 := blk_free (i := 3) HS.out.res
              have x4 := blk_cell (i := 4) HS.out.box rfl
              have r4 := blk_cell (i := 4) HS.out.res rfl
              have f4 := blk_free (i := 4) HS.out.res
              have x5 := blk_cell (i := 5) HS.out.box rfl
              have r5 := blk_cell (i := 5) HS.out.res rfl
              have f5 := blk_free (i := 5) HS.out.res
              have hne : ¬ sh = w.heap.size := Nat.ne_of_gt HS.out.lt
              have hne2 : ¬ w.heap.size = sh := Nat.ne_of_lt HS.out.lt
              have RS := HS.out.fin Y MM D th tm ts
              unfold dSet at RS
              go_upto_region 36 with fail
              go_region
              go_wp2_with fail
              have z0 := blk_cell (i := 0) RS.1 rfl
              have z1 := blk_cell (i := 1) RS.1 rfl
              have z2 := blk_cell (i := 2) RS.1 rfl
              have z3 := blk_cell (i := 3) RS.1 rfl
              have z4 := blk_cell (i := 4) RS.1 rfl
              have z5 := blk_cell (i := 5) RS.1 rfl
              exact bodyPost_ret (v := .tuple #[.agg #[.int .i64 Y, .int .i64 MM, .int .i64 D, .int .i64 th, .int .i64 tm, .int .i64 ts], .int .i64 WK, .bool true]) (by simp [results, Tryz.results102, go_sem, z0, z1, z2, z3, z4, z5]) rfl (RetFo.good hn.out RS.2)
end Go.Proofs.YtgamekfickheaaaGreat
