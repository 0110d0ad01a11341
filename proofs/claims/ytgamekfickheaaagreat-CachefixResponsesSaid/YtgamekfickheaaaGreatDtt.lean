/- Dates of fields (layer 6): the document's Form, form 3 (bin/mkdtr.py). -/
import Derived.Test.YtgamekfickheaaaGreatDtr
import Derived.BigRegion
import Derived.Deep.DeepCutAuto
namespace Go.Proofs.YtgamekfickheaaaGreat
open Go.RowKit
set_option linter.unusedVariables false
set_option linter.unusedSimpArgs false

set_option maxRecDepth 100000 in
set_option maxHeartbeats 4000000 in
theorem dform3 (tx : ByteArray) (now : Int) (w : World) (hs : tx.size ≤ 100000) :
    Calls Tryz.prog 102 #[.string tx, .int .i64 3, .int .i64 now] w (RetFo (fo3 tx) w) := by
  have HX := Kp.mk (DF.new w)
  have HNE := Kp.mk (@fo3_neg tx)
  have HPO := Kp.mk (@fo3_pos tx)
  go_enter Tryz.func102, Tryz.ntmps102
  go_wp2_with fail
  go_loopw [10, 17] (fun x i wr => ∃ k : Nat, k ≤ 7 ∧ i = .int .i64 k ∧ x = .int .i64 (wkU tx k) ∧ (3 < tx.size ∨ k = 0) ∧ DF w 0 0 0 0 0 0 wr) (fun x i _ => 7 - (intOf i).toNat)
  case atStart => exact ⟨0, by omega, rfl, rfl, .inr rfl, HX.out⟩
  case round =>
    obtain ⟨k, hk, rfl, rfl, hz, hD⟩ := hrel
    have HDr := Kp.mk hD
    clear hD HX
    by_cases hlt : k < 7 ∧ 3 < tx.size
    · obtain ⟨hk7, hz3⟩ := hlt
      have q1 : (k : Int) < 7 := by omega
      have q0 : (0 : Int) ≤ (k : Int) := by omega
      have q3 : (3 : Int) < (tx.size : Int) := by omega
      have q3' : (3 : Int) ≤ (tx.size : Int) := by omega
      have HWC := Kp.mk (wdC_at k hk7)
      have H3 := Kp.mk (wd3_ext k)
      have hz4 : (3 : Int) ≤ ((wdS k).size : Int) := by have := wdS_size _ hk7; omega
      have HM := Kp.mk (@wkU_miss tx k)
      have HH := Kp.mk (fun h => @wkU_hit tx k hk7 h)
      generalize hU : wkU tx k = U at *
      generalize hU1 : wkU tx (k + 1) = U1 at *
      have HU := Kp.mk hU1
      clear hU hU1
      by_cases he : tx.extract 0 3 = ofL (wd3 k)
      · have hw : tx.extract 0 3 = (wdS k).extract 0 3 := he.trans H3.out.symm
        have t2 : ((tx.extract 0 3).toList == ((wdS k).extract 0 3).toList) = true := by rw [hw]; simp
        have HV := Kp.mk (HH.out he)
        clear he HH HM hw
        go_upto_region 25 with fail
        refine wp_region_held_drew (S := fun _ => True) (by kernel_rfl) (trivial) (fun hHeld => ?_)
        refine wpAnyH_take (i := 0) (oi := ⟨some 143, .move (.tmp 0), _, _, _, none⟩) (v := ?_) rfl (by kernel_rfl) (by kernel_rfl) (by kernel_rfl) (fun _ _ _ h => h) (Or.inl ⟨by rfl, ?_⟩) (by assumption) ?_
        rotate_left
        · intro w hSw
          try dsimp only at hSw
          go_simp
          try with_reducible rfl
        try simp only [Act.put, List.setIfInBounds_toArray, List.set_cons_zero, List.set_cons_succ]
        refine wpAnyH_take (i := 1) (oi := ⟨some 144, .slice 9 (.tmp 143) none (some (.const (.int .i64 3))) none, _, _, _, none⟩) (v := ?_) rfl (by kernel_rfl) (by kernel_rfl) (by kernel_rfl) (fun _ _ _ h => h) (Or.inl ⟨by rfl, ?_⟩) (by assumption) ?_
        rotate_left
        · intro w hSw
          try dsimp only at hSw
          go_simp
          try with_reducible rfl
        try simp only [Act.put, List.setIfInBounds_toArray, List.set_cons_zero, List.set_cons_succ]
        refine wpAnyH_take (i := 3) (oi := ⟨some 146, .move (.tmp 17), _, _, _, none⟩) (v := ?_) rfl (by kernel_rfl) (by kernel_rfl) (by kernel_rfl) (fun _ _ _ h => h) (Or.inl ⟨by rfl, ?_⟩) (by assumption) ?_
        rotate_left
        · intro w hSw
          try dsimp only at hSw
          go_simp
          try with_reducible rfl
        try simp only [Act.put, List.setIfInBounds_toArray, List.set_cons_zero, List.set_cons_succ]
        refine wpAnyH_ready (rs := [2]) (by kernel_rfl) (by simp) ?_
        refine AllReadyH.cons (o := ⟨some 145, _, _, _, _, none⟩) rfl (fun K hK => ?_) AllReadyH.nil
        go_simp
        (go_at_call 106; refine (rdays6_any _).mono ?_; rintro e wn ⟨rfl, hb, hk⟩)
        replace hk := (show wn.heap[wr.heap.size]? = some (.cells wdC 9 (0, 0)) by simpa using hk)
        have dk := blk_cell (i := k) hk HWC.out
        have HD2 := Kp.mk (HDr.out.below ((gdrewN _ 1).trans hb))
        clear hb hk
        try go_wp2_with fail
        refine hK.out _ _ (trivial) (fun hHeld2 => ?_)
        clear hK K
        try simp only [Act.put, List.setIfInBounds_toArray, List.set_cons_zero, List.set_cons_succ]
        refine wpAnyH_more (S2 := fun w' => w'.cell? ⟨wr.heap.size, k, none⟩ = some (.string (wdS k))) (fun w h => trivial) _ _ _ _ ?_
        have hHeld8 := dk
        clear hHeld2
        refine wpAnyH_take (i := 4) (oi := ⟨some 147, .indexAddr 54 (.tmp 145) (.tmp 146), _, _, _, none⟩) (v := ?_) rfl (by kernel_rfl) (by kernel_rfl) (by kernel_rfl) (fun _ _ _ h => h) (Or.inl ⟨by rfl, ?_⟩) (by assumption) ?_
        rotate_left
        · intro w hSw
          try dsimp only at hSw
          go_simp
          try with_reducible rfl
        try simp only [Act.put, List.setIfInBounds_toArray, List.set_cons_zero, List.set_cons_succ]
        refine wpAnyH_take (i := 5) (oi := ⟨some 148, .load 9 (.tmp 147), _, _, _, none⟩) (v := ?_) rfl (by kernel_rfl) (by kernel_rfl) (by kernel_rfl) (fun _ _ _ h => h) (Or.inl ⟨by rfl, ?_⟩) (by assumption) ?_
        rotate_left
        · intro w hSw
          try dsimp only at hSw
          go_simp
          try with_reducible rfl
        try simp only [Act.put, List.setIfInBounds_toArray, List.set_cons_zero, List.set_cons_succ]
        refine wpAnyH_take (i := 6) (oi := ⟨some 149, .slice 9 (.tmp 148) none (some (.const (.int .i64 3))) none, _, _, _, none⟩) (v := ?_) rfl (by kernel_rfl) (by kernel_rfl) (by kernel_rfl) (fun _ _ _ h => h) (Or.inl ⟨by rfl, ?_⟩) (by assumption) ?_
        rotate_left
        · intro w hSw
          try dsimp only at hSw
          go_simp
          try with_reducible rfl
        try simp only [Act.put, List.setIfInBounds_toArray, List.set_cons_zero, List.set_cons_succ]
        refine wpAnyH_take (i := 7) (oi := ⟨some 150, .binOp .eql 9 (.tmp 144) (.tmp 149) 9, _, _, _, none⟩) (v := ?_) rfl (by kernel_rfl) (by kernel_rfl) (by kernel_rfl) (fun _ _ _ h => h) (Or.inl ⟨by rfl, ?_⟩) (by assumption) ?_
        rotate_left
        · intro w hSw
          try dsimp only at hSw
          go_simp
          try with_reducible rfl
        try simp only [Act.put, List.setIfInBounds_toArray, List.set_cons_zero, List.set_cons_succ]
        refine wpAnyH_done (by kernel_rfl) ?_ _
        go_wp2_with fail
        go_roundw
        case rel => exact ⟨k + 1, by omega, by go_num, by rw [HU.out, HV.out], .inl hz3, HD2.out⟩
        case measure => simp [intOf]; omega
      · have hw : tx.extract 0 3 ≠ (wdS k).extract 0 3 := fun h => he (h.trans H3.out)
        have t2 := ba_tlb6 hw
        have HV := Kp.mk (HM.out he)
        clear he HH HM hw
        go_upto_region 25 with fail
        refine wp_region_held_drew (S := fun _ => True) (by kernel_rfl) (trivial) (fun hHeld => ?_)
        refine wpAnyH_take (i := 0) (oi := ⟨some 143, .move (.tmp 0), _, _, _, none⟩) (v := ?_) rfl (by kernel_rfl) (by kernel_rfl) (by kernel_rfl) (fun _ _ _ h => h) (Or.inl ⟨by rfl, ?_⟩) (by assumption) ?_
        rotate_left
        · intro w hSw
          try dsimp only at hSw
          go_simp
          try with_reducible rfl
        try simp only [Act.put, List.setIfInBounds_toArray, List.set_cons_zero, List.set_cons_succ]
        refine wpAnyH_take (i := 1) (oi := ⟨some 144, .slice 9 (.tmp 143) none (some (.const (.int .i64 3))) none, _, _, _, none⟩) (v := ?_) rfl (by kernel_rfl) (by kernel_rfl) (by kernel_rfl) (fun _ _ _ h => h) (Or.inl ⟨by rfl, ?_⟩) (by assumption) ?_
        rotate_left
        · intro w hSw
          try dsimp only at hSw
          go_simp
          try with_reducible rfl
        try simp only [Act.put, List.setIfInBounds_toArray, List.set_cons_zero, List.set_cons_succ]
        refine wpAnyH_take (i := 3) (oi := ⟨some 146, .move (.tmp 17), _, _, _, none⟩) (v := ?_) rfl (by kernel_rfl) (by kernel_rfl) (by kernel_rfl) (fun _ _ _ h => h) (Or.inl ⟨by rfl, ?_⟩) (by assumption) ?_
        rotate_left
        · intro w hSw
          try dsimp only at hSw
          go_simp
          try with_reducible rfl
        try simp only [Act.put, List.setIfInBounds_toArray, List.set_cons_zero, List.set_cons_succ]
        refine wpAnyH_ready (rs := [2]) (by kernel_rfl) (by simp) ?_
        refine AllReadyH.cons (o := ⟨some 145, _, _, _, _, none⟩) rfl (fun K hK => ?_) AllReadyH.nil
        go_simp
        (go_at_call 106; refine (rdays6_any _).mono ?_; rintro e wn ⟨rfl, hb, hk⟩)
        replace hk := (show wn.heap[wr.heap.size]? = some (.cells wdC 9 (0, 0)) by simpa using hk)
        have dk := blk_cell (i := k) hk HWC.out
        have HD2 := Kp.mk (HDr.out.below ((gdrewN _ 1).trans hb))
        clear hb hk
        try go_wp2_with fail
        refine hK.out _ _ (trivial) (fun hHeld2 => ?_)
        clear hK K
        try simp only [Act.put, List.setIfInBounds_toArray, List.set_cons_zero, List.set_cons_succ]
        refine wpAnyH_more (S2 := fun w' => w'.cell? ⟨wr.heap.size, k, none⟩ = some (.string (wdS k))) (fun w h => trivial) _ _ _ _ ?_
        have hHeld8 := dk
        clear hHeld2
        refine wpAnyH_take (i := 4) (oi := ⟨some 147, .indexAddr 54 (.tmp 145) (.tmp 146), _, _, _, none⟩) (v := ?_) rfl (by kernel_rfl) (by kernel_rfl) (by kernel_rfl) (fun _ _ _ h => h) (Or.inl ⟨by rfl, ?_⟩) (by assumption) ?_
        rotate_left
        · intro w hSw
          try dsimp only at hSw
          go_simp
          try with_reducible rfl
        try simp only [Act.put, List.setIfInBounds_toArray, List.set_cons_zero, List.set_cons_succ]
        refine wpAnyH_take (i := 5) (oi := ⟨some 148, .load 9 (.tmp 147), _, _, _, none⟩) (v := ?_) rfl (by kernel_rfl) (by kernel_rfl) (by kernel_rfl) (fun _ _ _ h => h) (Or.inl ⟨by rfl, ?_⟩) (by assumption) ?_
        rotate_left
        · intro w hSw
          try dsimp only at hSw
          go_simp
          try with_reducible rfl
        try simp only [Act.put, List.setIfInBounds_toArray, List.set_cons_zero, List.set_cons_succ]
        refine wpAnyH_take (i := 6) (oi := ⟨some 149, .slice 9 (.tmp 148) none (some (.const (.int .i64 3))) none, _, _, _, none⟩) (v := ?_) rfl (by kernel_rfl) (by kernel_rfl) (by kernel_rfl) (fun _ _ _ h => h) (Or.inl ⟨by rfl, ?_⟩) (by assumption) ?_
        rotate_left
        · intro w hSw
          try dsimp only at hSw
          go_simp
          try with_reducible rfl
        try simp only [Act.put, List.setIfInBounds_toArray, List.set_cons_zero, List.set_cons_succ]
        refine wpAnyH_take (i := 7) (oi := ⟨some 150, .binOp .eql 9 (.tmp 144) (.tmp 149) 9, _, _, _, none⟩) (v := ?_) rfl (by kernel_rfl) (by kernel_rfl) (by kernel_rfl) (fun _ _ _ h => h) (Or.inl ⟨by rfl, ?_⟩) (by assumption) ?_
        rotate_left
        · intro w hSw
          try dsimp only at hSw
          go_simp
          try with_reducible rfl
        try simp only [Act.put, List.setIfInBounds_toArray, List.set_cons_zero, List.set_cons_succ]
        refine wpAnyH_done (by kernel_rfl) ?_ _
        go_wp2_with fail
        go_roundw
        case rel => exact ⟨k + 1, by omega, by go_num, by rw [HU.out, HV.out], .inl hz3, HD2.out⟩
        case measure => simp [intOf]; omega
    · by_cases hz3 : tx.size ≤ 3
      · obtain rfl : k = 0 := by omega
        have hn := Kp.mk (HNE.out (fun h => by have := h.2.1.1; omega))
        have q3 : ¬ (3 : Int) < (tx.size : Int) := by omega
        have hU : wkU tx 0 = -1 := rfl
        rw [hU]
        clear hU HNE HPO hlt hz
        have c0 := blk_cell (i := 0) HDr.out.box rfl
        have c1 := blk_cell (i := 1) HDr.out.box rfl
        have c2 := blk_cell (i := 2) HDr.out.box rfl
        have c3 := blk_cell (i := 3) HDr.out.box rfl
        have c4 := blk_cell (i := 4) HDr.out.box rfl
        have c5 := blk_cell (i := 5) HDr.out.box rfl
        have r0 := blk_cell (i := 0) HDr.out.res rfl
        have f0 := blk_free (i := 0) HDr.out.res
        have r1 := blk_cell (i := 1) HDr.out.res rfl
        have f1 := blk_free (i := 1) HDr.out.res
        have r2 := blk_cell (i := 2) HDr.out.res rfl
        have f2 := blk_free (i := 2) HDr.out.res
        have r3 := blk_cell (i := 3) HDr.out.res rfl
        have f3 := blk_free (i := 3) HDr.out.res
        have r4 := blk_cell (i := 4) HDr.out.res rfl
        have f4 := blk_free (i := 4) HDr.out.res
        have r5 := blk_cell (i := 5) HDr.out.res rfl
        have f5 := blk_free (i := 5) HDr.out.res
        have RS := HDr.out.done (0) (0) (0) (0) (0) (0)
        unfold dSet at RS
        go_wp2_with fail
        have z0 := blk_cell (i := 0) RS.1 rfl
        have z1 := blk_cell (i := 1) RS.1 rfl
        have z2 := blk_cell (i := 2) RS.1 rfl
        have z3 := blk_cell (i := 3) RS.1 rfl
        have z4 := blk_cell (i := 4) RS.1 rfl
        have z5 := blk_cell (i := 5) RS.1 rfl
        exact bodyPost_ret (v := .tuple #[.agg #[.int .i64 0, .int .i64 0, .int .i64 0, .int .i64 0, .int .i64 0, .int .i64 0], .int .i64 0, .bool false]) (by simp [results, Tryz.results102, go_sem, z0, z1, z2, z3, z4, z5]) rfl (RetFo.bad hn.out RS.2)
      · obtain rfl : k = 7 := by omega
        rw [wkU_all]
        have hr := wkU_range tx 7 (Nat.le_refl _)
        rw [wkU_all] at hr
        clear hlt hz
        by_cases hV : wkD tx < 0
        · have hn := Kp.mk (HNE.out (fun h => by have := h.1; omega))
          clear HNE HPO
          have c0 := blk_cell (i := 0) HDr.out.box rfl
          have c1 := blk_cell (i := 1) HDr.out.box rfl
          have c2 := blk_cell (i := 2) HDr.out.box rfl
          have c3 := blk_cell (i := 3) HDr.out.box rfl
          have c4 := blk_cell (i := 4) HDr.out.box rfl
          have c5 := blk_cell (i := 5) HDr.out.box rfl
          have r0 := blk_cell (i := 0) HDr.out.res rfl
          have f0 := blk_free (i := 0) HDr.out.res
          have r1 := blk_cell (i := 1) HDr.out.res rfl
          have f1 := blk_free (i := 1) HDr.out.res
          have r2 := blk_cell (i := 2) HDr.out.res rfl
          have f2 := blk_free (i := 2) HDr.out.res
          have r3 := blk_cell (i := 3) HDr.out.res rfl
          have f3 := blk_free (i := 3) HDr.out.res
          have r4 := blk_cell (i := 4) HDr.out.res rfl
          have f4 := blk_free (i := 4) HDr.out.res
          have r5 := blk_cell (i := 5) HDr.out.res rfl
          have f5 := blk_free (i := 5) HDr.out.res
          have RS := HDr.out.done (0) (0) (0) (0) (0) (0)
          unfold dSet at RS
          go_wp2_with fail
          have z0 := blk_cell (i := 0) RS.1 rfl
          have z1 := blk_cell (i := 1) RS.1 rfl
          have z2 := blk_cell (i := 2) RS.1 rfl
          have z3 := blk_cell (i := 3) RS.1 rfl
          have z4 := blk_cell (i := 4) RS.1 rfl
          have z5 := blk_cell (i := 5) RS.1 rfl
          exact bodyPost_ret (v := .tuple #[.agg #[.int .i64 0, .int .i64 0, .int .i64 0, .int .i64 0, .int .i64 0, .int .i64 0], .int .i64 0, .bool false]) (by simp [results, Tryz.results102, go_sem, z0, z1, z2, z3, z4, z5]) rfl (RetFo.bad hn.out RS.2)
        · have hV0 : 0 ≤ wkD tx := by omega
          by_cases h24 : tx.size = 24
          rotate_left
          · have hn := Kp.mk (HNE.out (fun h2 => by have h2 := h2.2.1; unfold f3C at h2; exact h24 (by simp only [h2])))
            have t24 : ((tx.size : Int) != 24) = true := by rw [bne_iff_ne]; omega
            clear HNE HPO
            have c0 := blk_cell (i := 0) HDr.out.box rfl
            have c1 := blk_cell (i := 1) HDr.out.box rfl
            have c2 := blk_cell (i := 2) HDr.out.box rfl
            have c3 := blk_cell (i := 3) HDr.out.box rfl
            have c4 := blk_cell (i := 4) HDr.out.box rfl
            have c5 := blk_cell (i := 5) HDr.out.box rfl
            have r0 := blk_cell (i := 0) HDr.out.res rfl
            have f0 := blk_free (i := 0) HDr.out.res
            have r1 := blk_cell (i := 1) HDr.out.res rfl
            have f1 := blk_free (i := 1) HDr.out.res
            have r2 := blk_cell (i := 2) HDr.out.res rfl
            have f2 := blk_free (i := 2) HDr.out.res
            have r3 := blk_cell (i := 3) HDr.out.res rfl
            have f3 := blk_free (i := 3) HDr.out.res
            have r4 := blk_cell (i := 4) HDr.out.res rfl
            have f4 := blk_free (i := 4) HDr.out.res
            have r5 := blk_cell (i := 5) HDr.out.res rfl
            have f5 := blk_free (i := 5) HDr.out.res
            have RS := HDr.out.done (0) (0) (0) (0) (0) (0)
            unfold dSet at RS
            go_wp2_with fail
            have z0 := blk_cell (i := 0) RS.1 rfl
            have z1 := blk_cell (i := 1) RS.1 rfl
            have z2 := blk_cell (i := 2) RS.1 rfl
            have z3 := blk_cell (i := 3) RS.1 rfl
            have z4 := blk_cell (i := 4) RS.1 rfl
            have z5 := blk_cell (i := 5) RS.1 rfl
            exact bodyPost_ret (v := .tuple #[.agg #[.int .i64 0, .int .i64 0, .int .i64 0, .int .i64 0, .int .i64 0, .int .i64 0], .int .i64 0, .bool false]) (by simp [results, Tryz.results102, go_sem, z0, z1, z2, z3, z4, z5]) rfl (RetFo.bad hn.out RS.2)
          have t24 : ((tx.size : Int) != 24) = false := by rw [bne_eq_false_iff_eq]; omega
          have q24 : (tx.size : Int) = 24 := by omega
          by_cases h3 : bt tx 3 = 32
          rotate_left
          · have hn := Kp.mk (HNE.out (fun h2 => by have h2 := h2.2.1; unfold f3C at h2; exact h3 (by simp only [h2])))
            have g3 := bt_at tx 3 (by omega)
            have t3 : ((tx[3].toNat : Int) != 32) = true := by rw [g3, bne_iff_ne]; omega
            clear HNE HPO
            have c0 := blk_cell (i := 0) HDr.out.box rfl
            have c1 := blk_cell (i := 1) HDr.out.box rfl
            have c2 := blk_cell (i := 2) HDr.out.box rfl
            have c3 := blk_cell (i := 3) HDr.out.box rfl
            have c4 := blk_cell (i := 4) HDr.out.box rfl
            have c5 := blk_cell (i := 5) HDr.out.box rfl
            have r0 := blk_cell (i := 0) HDr.out.res rfl
            have f0 := blk_free (i := 0) HDr.out.res
            have r1 := blk_cell (i := 1) HDr.out.res rfl
            have f1 := blk_free (i := 1) HDr.out.res
            have r2 := blk_cell (i := 2) HDr.out.res rfl
            have f2 := blk_free (i := 2) HDr.out.res
            have r3 := blk_cell (i := 3) HDr.out.res rfl
            have f3 := blk_free (i := 3) HDr.out.res
            have r4 := blk_cell (i := 4) HDr.out.res rfl
            have f4 := blk_free (i := 4) HDr.out.res
            have r5 := blk_cell (i := 5) HDr.out.res rfl
            have f5 := blk_free (i := 5) HDr.out.res
            have RS := HDr.out.done (0) (0) (0) (0) (0) (0)
            unfold dSet at RS
            go_wp2_with fail
            have z0 := blk_cell (i := 0) RS.1 rfl
            have z1 := blk_cell (i := 1) RS.1 rfl
            have z2 := blk_cell (i := 2) RS.1 rfl
            have z3 := blk_cell (i := 3) RS.1 rfl
            have z4 := blk_cell (i := 4) RS.1 rfl
            have z5 := blk_cell (i := 5) RS.1 rfl
            exact bodyPost_ret (v := .tuple #[.agg #[.int .i64 0, .int .i64 0, .int .i64 0, .int .i64 0, .int .i64 0, .int .i64 0], .int .i64 0, .bool false]) (by simp [results, Tryz.results102, go_sem, z0, z1, z2, z3, z4, z5]) rfl (RetFo.bad hn.out RS.2)
          have g3 := bt_at tx 3 (by omega)
          have t3 : ((tx[3].toNat : Int) != 32) = false := by rw [g3, h3]; rfl
          by_cases h7 : bt tx 7 = 32
          rotate_left
          · have hn := Kp.mk (HNE.out (fun h2 => by have h2 := h2.2.1; unfold f3C at h2; exact h7 (by simp only [h2])))
            have g7 := bt_at tx 7 (by omega)
            have t7 : ((tx[7].toNat : Int) != 32) = true := by rw [g7, bne_iff_ne]; omega
            clear HNE HPO
            have c0 := blk_cell (i := 0) HDr.out.box rfl
            have c1 := blk_cell (i := 1) HDr.out.box rfl
            have c2 := blk_cell (i := 2) HDr.out.box rfl
            have c3 := blk_cell (i := 3) HDr.out.box rfl
            have c4 := blk_cell (i := 4) HDr.out.box rfl
            have c5 := blk_cell (i := 5) HDr.out.box rfl
            have r0 := blk_cell (i := 0) HDr.out.res rfl
            have f0 := blk_free (i := 0) HDr.out.res
            have r1 := blk_cell (i := 1) HDr.out.res rfl
            have f1 := blk_free (i := 1) HDr.out.res
            have r2 := blk_cell (i := 2) HDr.out.res rfl
            have f2 := blk_free (i := 2) HDr.out.res
            have r3 := blk_cell (i := 3) HDr.out.res rfl
            have f3 := blk_free (i := 3) HDr.out.res
            have r4 := blk_cell (i := 4) HDr.out.res rfl
            have f4 := blk_free (i := 4) HDr.out.res
            have r5 := blk_cell (i := 5) HDr.out.res rfl
            have f5 := blk_free (i := 5) HDr.out.res
            have RS := HDr.out.done (0) (0) (0) (0) (0) (0)
            unfold dSet at RS
            go_wp2_with fail
            have z0 := blk_cell (i := 0) RS.1 rfl
            have z1 := blk_cell (i := 1) RS.1 rfl
            have z2 := blk_cell (i := 2) RS.1 rfl
            have z3 := blk_cell (i := 3) RS.1 rfl
            have z4 := blk_cell (i := 4) RS.1 rfl
            have z5 := blk_cell (i := 5) RS.1 rfl
            exact bodyPost_ret (v := .tuple #[.agg #[.int .i64 0, .int .i64 0, .int .i64 0, .int .i64 0, .int .i64 0, .int .i64 0], .int .i64 0, .bool false]) (by simp [results, Tryz.results102, go_sem, z0, z1, z2, z3, z4, z5]) rfl (RetFo.bad hn.out RS.2)
          have g7 := bt_at tx 7 (by omega)
          have t7 : ((tx[7].toNat : Int) != 32) = false := by rw [g7, h7]; rfl
          by_cases h10 : bt tx 10 = 32
          rotate_left
          · have hn := Kp.mk (HNE.out (fun h2 => by have h2 := h2.2.1; unfold f3C at h2; exact h10 (by simp only [h2])))
            have g10 := bt_at tx 10 (by omega)
            have t10 : ((tx[10].toNat : Int) != 32) = true := by rw [g10, bne_iff_ne]; omega
            clear HNE HPO
            have c0 := blk_cell (i := 0) HDr.out.box rfl
            have c1 := blk_cell (i := 1) HDr.out.box rfl
            have c2 := blk_cell (i := 2) HDr.out.box rfl
            have c3 := blk_cell (i := 3) HDr.out.box rfl
            have c4 := blk_cell (i := 4) HDr.out.box rfl
            have c5 := blk_cell (i := 5) HDr.out.box rfl
            have r0 := blk_cell (i := 0) HDr.out.res rfl
            have f0 := blk_free (i := 0) HDr.out.res
            have r1 := blk_cell (i := 1) HDr.out.res rfl
            have f1 := blk_free (i := 1) HDr.out.res
            have r2 := blk_cell (i := 2) HDr.out.res rfl
            have f2 := blk_free (i := 2) HDr.out.res
            have r3 := blk_cell (i := 3) HDr.out.res rfl
            have f3 := blk_free (i := 3) HDr.out.res
            have r4 := blk_cell (i := 4) HDr.out.res rfl
            have f4 := blk_free (i := 4) HDr.out.res
            have r5 := blk_cell (i := 5) HDr.out.res rfl
            have f5 := blk_free (i := 5) HDr.out.res
            have RS := HDr.out.done (0) (0) (0) (0) (0) (0)
            unfold dSet at RS
            go_wp2_with fail
            have z0 := blk_cell (i := 0) RS.1 rfl
            have z1 := blk_cell (i := 1) RS.1 rfl
            have z2 := blk_cell (i := 2) RS.1 rfl
            have z3 := blk_cell (i := 3) RS.1 rfl
            have z4 := blk_cell (i := 4) RS.1 rfl
            have z5 := blk_cell (i := 5) RS.1 rfl
            exact bodyPost_ret (v := .tuple #[.agg #[.int .i64 0, .int .i64 0, .int .i64 0, .int .i64 0, .int .i64 0, .int .i64 0], .int .i64 0, .bool false]) (by simp [results, Tryz.results102, go_sem, z0, z1, z2, z3, z4, z5]) rfl (RetFo.bad hn.out RS.2)
          have g10 := bt_at tx 10 (by omega)
          have t10 : ((tx[10].toNat : Int) != 32) = false := by rw [g10, h10]; rfl
          by_cases h19 : bt tx 19 = 32
          rotate_left
          · have hn := Kp.mk (HNE.out (fun h2 => by have h2 := h2.2.1; unfold f3C at h2; exact h19 (by simp only [h2])))
            have g19 := bt_at tx 19 (by omega)
            have t19 : ((tx[19].toNat : Int) != 32) = true := by rw [g19, bne_iff_ne]; omega
            clear HNE HPO
            have c0 := blk_cell (i := 0) HDr.out.box rfl
            have c1 := blk_cell (i := 1) HDr.out.box rfl
            have c2 := blk_cell (i := 2) HDr.out.box rfl
            have c3 := blk_cell (i := 3) HDr.out.box rfl
            have c4 := blk_cell (i := 4) HDr.out.box rfl
            have c5 := blk_cell (i := 5) HDr.out.box rfl
            have r0 := blk_cell (i := 0) HDr.out.res rfl
            have f0 := blk_free (i := 0) HDr.out.res
            have r1 := blk_cell (i := 1) HDr.out.res rfl
            have f1 := blk_free (i := 1) HDr.out.res
            have r2 := blk_cell (i := 2) HDr.out.res rfl
            have f2 := blk_free (i := 2) HDr.out.res
            have r3 := blk_cell (i := 3) HDr.out.res rfl
            have f3 := blk_free (i := 3) HDr.out.res
            have r4 := blk_cell (i := 4) HDr.out.res rfl
            have f4 := blk_free (i := 4) HDr.out.res
            have r5 := blk_cell (i := 5) HDr.out.res rfl
            have f5 := blk_free (i := 5) HDr.out.res
            have RS := HDr.out.done (0) (0) (0) (0) (0) (0)
            unfold dSet at RS
            go_wp2_with fail
            have z0 := blk_cell (i := 0) RS.1 rfl
            have z1 := blk_cell (i := 1) RS.1 rfl
            have z2 := blk_cell (i := 2) RS.1 rfl
            have z3 := blk_cell (i := 3) RS.1 rfl
            have z4 := blk_cell (i := 4) RS.1 rfl
            have z5 := blk_cell (i := 5) RS.1 rfl
            exact bodyPost_ret (v := .tuple #[.agg #[.int .i64 0, .int .i64 0, .int .i64 0, .int .i64 0, .int .i64 0, .int .i64 0], .int .i64 0, .bool false]) (by simp [results, Tryz.results102, go_sem, z0, z1, z2, z3, z4, z5]) rfl (RetFo.bad hn.out RS.2)
          have g19 := bt_at tx 19 (by omega)
          have t19 : ((tx[19].toNat : Int) != 32) = false := by rw [g19, h19]; rfl
          have hmr := ixD_range 12 moS (tx.extract 4 7)
          have hwm : IntKind.i64.wrap (ixD 12 moS (tx.extract 4 7) + 1) = ixD 12 moS (tx.extract 4 7) + 1 := wrapQ _ (by omega) (by omega)
          have b2 := blk_cell (i := 2) HDr.out.box rfl
          have g2 := blk_free (i := 2) HDr.out.box
          go_wp2_with fail
          refine (dnumber_any _ _ (by simp [maxLen]; omega)).mono ?_
          rintro e w1 ⟨rfl, rfl⟩
          have HD1 := Kp.mk (HDr.out.setD (nmQ (tx.extract 8 10)))
          go_upto_region 40 with fail
          clear b2 g2
          refine wp_region_held_drew (S := fun _ => True) (by kernel_rfl) (trivial) (fun hHeld => ?_)
          refine wpAnyH_take (i := 1) (oi := ⟨some 254, .move (.tmp 0), _, _, _, none⟩) (v := ?_) rfl (by kernel_rfl) (by kernel_rfl) (by kernel_rfl) (fun _ _ _ h => h) (Or.inl ⟨by rfl, ?_⟩) (by assumption) ?_
          rotate_left
          · intro w hSw
            try dsimp only at hSw
            go_simp
            try with_reducible rfl
          try simp only [Act.put, List.setIfInBounds_toArray, List.set_cons_zero, List.set_cons_succ]
          refine wpAnyH_take (i := 2) (oi := ⟨some 255, .slice 9 (.tmp 254) (some (.const (.int .i64 4))) (some (.const (.int .i64 7))) none, _, _, _, none⟩) (v := ?_) rfl (by kernel_rfl) (by kernel_rfl) (by kernel_rfl) (fun _ _ _ h => h) (Or.inl ⟨by rfl, ?_⟩) (by assumption) ?_
          rotate_left
          · intro w hSw
            try dsimp only at hSw
            go_simp
            try with_reducible rfl
          try simp only [Act.put, List.setIfInBounds_toArray, List.set_cons_zero, List.set_cons_succ]
          refine wpAnyH_ready (rs := [0]) (by kernel_rfl) (by simp) ?_
          refine AllReadyH.cons (o := ⟨some 253, _, _, _, _, none⟩) rfl (fun K hK => ?_) AllReadyH.nil
          go_simp
          (go_at_call 107; refine (rmonths6_any _).mono ?_; rintro e wn ⟨rfl, hb, hk⟩)
          replace hk := (show wn.heap[w1.heap.size]? = some (.cells moC 9 (0, 0)) by simpa using hk)
          have HK := Kp.mk hk
          have HD2 := Kp.mk (HD1.out.below ((gdrewN _ 1).trans hb))
          clear hb hk
          try go_wp2_with fail
          refine hK.out _ _ (trivial) (fun hHeld2 => ?_)
          clear hK K
          try simp only [Act.put, List.setIfInBounds_toArray, List.set_cons_zero, List.set_cons_succ]
          refine wpAnyH_ready (rs := [3]) (by kernel_rfl) (by simp) ?_
          refine AllReadyH.cons (o := ⟨some 256, _, _, _, _, none⟩) rfl (fun K hK => ?_) AllReadyH.nil
          go_simp
          (go_at_call 127; refine (dindex_any 12 moS moC _ _ _ (by decide) (fun k h => moC_at k h) HK.out).mono ?_; rintro e wn2 ⟨rfl, hb⟩)
          replace HD2 := Kp.mk (HD2.out.below hb)
          have c1 := blk_cell (i := 1) HD2.out.box rfl
          have g1 := blk_free (i := 1) HD2.out.box
          clear hb
          try go_wp2_with fail
          refine hK.out _ _ (trivial) (fun hHeld2 => ?_)
          clear hK K
          try simp only [Act.put, List.setIfInBounds_toArray, List.set_cons_zero, List.set_cons_succ]
          refine wpAnyH_take (i := 4) (oi := ⟨some 257, .binOp .add 3 (.tmp 256) (.const (.int .i64 1)) 3, _, _, _, none⟩) (v := ?_) rfl (by kernel_rfl) (by kernel_rfl) (by kernel_rfl) (fun _ _ _ h => h) (Or.inl ⟨by rfl, ?_⟩) (by assumption) ?_
          rotate_left
          · intro w hSw
            try dsimp only at hSw
            go_simp
            try with_reducible rfl
          try simp only [Act.put, List.setIfInBounds_toArray, List.set_cons_zero, List.set_cons_succ]
          refine wpAnyH_take (i := 5) (oi := ⟨some 258, .fieldAddr 66 (.tmp 9) 1, _, _, _, none⟩) (v := ?_) rfl (by kernel_rfl) (by kernel_rfl) (by kernel_rfl) (fun _ _ _ h => h) (Or.inl ⟨by rfl, ?_⟩) (by assumption) ?_
          rotate_left
          · intro w hSw
            try dsimp only at hSw
            go_simp
            try with_reducible rfl
          try simp only [Act.put, List.setIfInBounds_toArray, List.set_cons_zero, List.set_cons_succ]
          refine wpAnyH_ready (rs := [6]) (by kernel_rfl) (by simp) ?_
          refine AllReadyH.cons (o := ⟨none, _, _, _, _, none⟩) rfl (fun K hK => ?_) AllReadyH.nil
          go_simp
          refine hK.out _ _ (trivial) (fun hHeld2 => ?_)
          clear hK K
          try simp only [Act.put, List.setIfInBounds_toArray, List.set_cons_zero, List.set_cons_succ]
          refine wpAnyH_done (by kernel_rfl) ?_ _
          have HD3 := Kp.mk (HD2.out.setM (ixD 12 moS (tx.extract 4 7) + 1))
          clear c1 g1
          have c0 := blk_cell (i := 0) HD3.out.box rfl
          have g0 := blk_free (i := 0) HD3.out.box
          go_wp2_with fail
          refine (dnumber_any _ _ (by simp [maxLen]; omega)).mono ?_
          rintro e w2 ⟨rfl, rfl⟩
          have HD4 := Kp.mk (HD3.out.setY (nmQ (tx.extract 20 24)))
          go_upto_region 42 with fail
          clear c0 g0
          generalize hW4 : ((wn2.setCell ⟨w.heap.size + 1, 1, none⟩ (.int .i64 (ixD 12 moS (tx.extract 4 7) + 1))).setCell ⟨w.heap.size + 1, 0, none⟩ (.int .i64 (nmQ (tx.extract 20 24)))) = W4 at *
          clear hW4
          go_upto_if 265 with fail
          go_cut [10] (fun v wx => v = .int .i64 (wkD tx) ∧ DF w (nmQ (tx.extract 20 24)) (ixD 12 moS (tx.extract 4 7) + 1) (dayD tx) 0 0 0 wx)
          case first =>
            have b2 := blk_cell (i := 2) HD4.out.box rfl
            have g2 := blk_free (i := 2) HD4.out.box
            by_cases h8 : bt tx 8 = 32
            · have g8 := bt_at tx 8 (by omega)
              have t8 : ((tx[8].toNat : Int) == 32) = true := by rw [g8, h8]; rfl
              have HE := Kp.mk (show dayD tx = nmQ (tx.extract 9 10) from if_pos h8)
              go_wp2_with fail
              refine (dnumber_any _ _ (by simp [maxLen]; omega)).mono ?_
              rintro e w3 ⟨rfl, rfl⟩
              go_wp2_with fail
              go_meet
              exact ⟨rfl, by rw [HE.out]; exact HD4.out.setD _⟩
            · have g8 := bt_at tx 8 (by omega)
              have t8 : ((tx[8].toNat : Int) == 32) = false := by rw [g8, beq_eq_false_iff_ne]; omega
              have HE := Kp.mk (show dayD tx = nmQ (tx.extract 8 10) from if_neg h8)
              go_wp2_with fail
              go_meet
              exact ⟨rfl, by rw [HE.out]; exact HD4.out⟩
          case rest =>
            obtain ⟨rfl, hD5⟩ := hcut
            replace HD4 := Kp.mk hD5
            clear hD5
            obtain ⟨BB, th, tm, ts, hTT, hBB⟩ := dtime_any6 (tx.extract 11 19) (nmQ (tx.extract 20 24)) (ixD 12 moS (tx.extract 4 7) + 1) (dayD tx) (by simp; omega)
            have HTT := Kp.mk hTT
            have HBB := Kp.mk hBB
            clear hTT hBB 
            go_upto_region 44 with fail
            go_cut [20] (fun b wx => b = .bool BB ∧ SH w (w.heap.size + 1) (nmQ (tx.extract 20 24)) ((ixD 12 moS (tx.extract 4 7) + 1)) (dayD tx) (th) (tm) (ts) wx)
            case first =>
              refine wp_region_held_drew (S := fun _ => True) (by kernel_rfl) trivial (fun hHeld => ?_)
              refine wpAnyH_take (i := 0) (oi := ⟨some 271, .move (.tmp 0), _, _, _, none⟩) (v := ?_) rfl (by kernel_rfl) (by kernel_rfl) (by kernel_rfl) (fun _ _ _ h => h) (Or.inl ⟨by rfl, ?_⟩) (by assumption) ?_
              rotate_left
              · intro w hSw
                try dsimp only at hSw
                go_simp
                try with_reducible rfl
              try simp only [Act.put, List.setIfInBounds_toArray, List.set_cons_zero, List.set_cons_succ]
              refine wpAnyH_take (i := 1) (oi := ⟨some 272, .slice 9 (.tmp 271) (some (.const (.int .i64 11))) (some (.const (.int .i64 19))) none, _, _, _, none⟩) (v := ?_) rfl (by kernel_rfl) (by kernel_rfl) (by kernel_rfl) (fun _ _ _ h => h) (Or.inl ⟨by rfl, ?_⟩) (by assumption) ?_
              rotate_left
              · intro w hSw
                try dsimp only at hSw
                go_simp
                try with_reducible rfl
              try simp only [Act.put, List.setIfInBounds_toArray, List.set_cons_zero, List.set_cons_succ]
              have c0 := blk_cell (i := 0) HD4.out.box rfl
              have c1 := blk_cell (i := 1) HD4.out.box rfl
              have c2 := blk_cell (i := 2) HD4.out.box rfl
              have c3 := blk_cell (i := 3) HD4.out.box rfl
              have c4 := blk_cell (i := 4) HD4.out.box rfl
              have c5 := blk_cell (i := 5) HD4.out.box rfl
              refine wpAnyH_ready (rs := [2]) (by kernel_rfl) (by simp) ?_
              refine AllReadyH.cons (o := ⟨some 273, _, _, _, _, none⟩) rfl (fun K hK => ?_) AllReadyH.nil
              go_simp
              refine hK.out _ _ (trivial) (fun hHeld2 => ?_)
              clear hK K
              try simp only [Act.put, List.setIfInBounds_toArray, List.set_cons_zero, List.set_cons_succ]
              refine wpAnyH_ready (rs := [3]) (by kernel_rfl) (by simp) ?_
              refine AllReadyH.cons (o := ⟨some 274, _, _, _, _, none⟩) rfl (fun K hK => ?_) AllReadyH.nil
              go_simp
              (go_at_call 129; refine (HTT.out _).mono ?_; rintro e w5 ⟨rfl, hb⟩)
              have HD5 := Kp.mk (HD4.out.below ((gdrewN _ 1).trans hb))
              have n0 := blk_cell (i := 0) HD5.out.box rfl
              have o0 := blk_free (i := 0) HD5.out.box
              have n1 := blk_cell (i := 1) HD5.out.box rfl
              have o1 := blk_free (i := 1) HD5.out.box
              have n2 := blk_cell (i := 2) HD5.out.box rfl
              have o2 := blk_free (i := 2) HD5.out.box
              have n3 := blk_cell (i := 3) HD5.out.box rfl
              have o3 := blk_free (i := 3) HD5.out.box
              have n4 := blk_cell (i := 4) HD5.out.box rfl
              have o4 := blk_free (i := 4) HD5.out.box
              have n5 := blk_cell (i := 5) HD5.out.box rfl
              have o5 := blk_free (i := 5) HD5.out.box
              clear hb
              try go_wp2_with fail
              refine hK.out _ _ (trivial) (fun hHeld2 => ?_)
              clear hK K
              try simp only [Act.put, List.setIfInBounds_toArray, List.set_cons_zero, List.set_cons_succ]
              refine wpAnyH_take (i := 4) (oi := ⟨some 270, .move (.tmp 274), _, _, _, none⟩) (v := ?_) rfl (by kernel_rfl) (by kernel_rfl) (by kernel_rfl) (fun _ _ _ h => h) (Or.inl ⟨by rfl, ?_⟩) (by assumption) ?_
              rotate_left
              · intro w hSw
                try dsimp only at hSw
                go_simp
                try with_reducible rfl
              try simp only [Act.put, List.setIfInBounds_toArray, List.set_cons_zero, List.set_cons_succ]
              refine wpAnyH_take (i := 5) (oi := ⟨some 275, .extract (.tmp 270) 0, _, _, _, none⟩) (v := ?_) rfl (by kernel_rfl) (by kernel_rfl) (by kernel_rfl) (fun _ _ _ h => h) (Or.inl ⟨by rfl, ?_⟩) (by assumption) ?_
              rotate_left
              · intro w hSw
                try dsimp only at hSw
                go_simp
                try with_reducible rfl
              try simp only [Act.put, List.setIfInBounds_toArray, List.set_cons_zero, List.set_cons_succ]
              refine wpAnyH_take (i := 6) (oi := ⟨some 276, .extract (.tmp 270) 1, _, _, _, none⟩) (v := ?_) rfl (by kernel_rfl) (by kernel_rfl) (by kernel_rfl) (fun _ _ _ h => h) (Or.inl ⟨by rfl, ?_⟩) (by assumption) ?_
              rotate_left
              · intro w hSw
                try dsimp only at hSw
                go_simp
                try with_reducible rfl
              try simp only [Act.put, List.setIfInBounds_toArray, List.set_cons_zero, List.set_cons_succ]
              refine wpAnyH_ready (rs := [7]) (by kernel_rfl) (by simp) ?_
              refine AllReadyH.cons (o := ⟨none, _, _, _, _, none⟩) rfl (fun K hK => ?_) AllReadyH.nil
              go_simp
              refine hK.out _ _ (trivial) (fun hHeld2 => ?_)
              clear hK K
              try simp only [Act.put, List.setIfInBounds_toArray, List.set_cons_zero, List.set_cons_succ]
              refine wpAnyH_take (i := 8) (oi := ⟨some 20, .assign (.tmp 276), _, _, _, none⟩) (v := ?_) rfl (by kernel_rfl) (by kernel_rfl) (by kernel_rfl) (fun _ _ _ h => h) (Or.inl ⟨by rfl, ?_⟩) (by assumption) ?_
              rotate_left
              · intro w hSw
                try dsimp only at hSw
                go_simp
                try with_reducible rfl
              try simp only [Act.put, List.setIfInBounds_toArray, List.set_cons_zero, List.set_cons_succ]
              refine wpAnyH_done (by kernel_rfl) ?_ _
              go_wp2_with fail
              go_meet
              exact ⟨rfl, SH.set (cs := (_, _, _, _, _, _)) HD5.out (Nat.lt_succ_self _) HD5.out.box (nmQ (tx.extract 20 24)) ((ixD 12 moS (tx.extract 4 7) + 1)) (dayD tx) (th) (tm) (ts)⟩
            case rest =>
              obtain ⟨rfl, hS⟩ := hcut
              have HS := Kp.mk hS
              clear hS HD4
              generalize hsh : w.heap.size + 1 = sh at *
              clear hsh
              rcases HBB.out with ⟨rfl, hT, hH, rfl, rfl, rfl⟩ | ⟨rfl, hb⟩
              rotate_left
              · skip
                have hn := Kp.mk (HNE.out (fun h => hb ⟨h.2.2.1, h.2.2.2.1⟩))
                clear HNE HPO HBB HTT
                clear hb
                generalize dayD tx = D at *
                generalize ixD 12 moS (tx.extract 4 7) + 1 = MM at *
                generalize nmQ (tx.extract 20 24) = Y at *
                generalize wkD tx = WK at *
                have x0 := blk_cell (i := 0) HS.out.box rfl
                have r0 := blk_cell (i := 0) HS.out.res rfl
                have f0 := blk_free (i := 0) HS.out.res
                have x1 := blk_cell (i := 1) HS.out.box rfl
                have r1 := blk_cell (i := 1) HS.out.res rfl
                have f1 := blk_free (i := 1) HS.out.res
                have x2 := blk_cell (i := 2) HS.out.box rfl
                have r2 := blk_cell (i := 2) HS.out.res rfl
                have f2 := blk_free (i := 2) HS.out.res
                have x3 := blk_cell (i := 3) HS.out.box rfl
                have r3 := blk_cell (i := 3) HS.out.res rfl
                have f3 := blk_free (i := 3) HS.out.res
                have x4 := blk_cell (i := 4) HS.out.box rfl
                have r4 := blk_cell (i := 4) HS.out.res rfl
                have f4 := blk_free (i := 4) HS.out.res
                have x5 := blk_cell (i := 5) HS.out.box rfl
                have r5 := blk_cell (i := 5) HS.out.res rfl
                have f5 := blk_free (i := 5) HS.out.res
                have hne : ¬ sh = w.heap.size := Nat.ne_of_gt HS.out.lt
                have hne2 : ¬ w.heap.size = sh := Nat.ne_of_lt HS.out.lt
                have RS := HS.out.fin Y MM D th tm ts
                unfold dSet at RS
                go_upto_region 45 with fail
                go_region
                go_wp2_with fail
                have z0 := blk_cell (i := 0) RS.1 rfl
                have z1 := blk_cell (i := 1) RS.1 rfl
                have z2 := blk_cell (i := 2) RS.1 rfl
                have z3 := blk_cell (i := 3) RS.1 rfl
                have z4 := blk_cell (i := 4) RS.1 rfl
                have z5 := blk_cell (i := 5) RS.1 rfl
                exact bodyPost_ret (v := .tuple #[.agg #[.int .i64 Y, .int .i64 MM, .int .i64 D, .int .i64 th, .int .i64 tm, .int .i64 ts], .int .i64 WK, .bool false]) (by simp [results, Tryz.results102, go_sem, z0, z1, z2, z3, z4, z5]) rfl (RetFo.bad hn.out RS.2)
              by_cases hd : 0 ≤ dayD tx
              rotate_left
              · skip
                have hn := Kp.mk (HNE.out (fun h => hd h.2.2.2.2.1))
                clear HNE HPO HBB HTT
                have pd : dayD tx < 0 := by omega
                have pd2 : decide (0 ≤ dayD tx) = false := decide_eq_false hd
                generalize dayD tx = D at *
                generalize ixD 12 moS (tx.extract 4 7) + 1 = MM at *
                generalize nmQ (tx.extract 20 24) = Y at *
                generalize nmQ ((tx.extract 11 19).extract 0 2) = th at *
                generalize nmQ ((tx.extract 11 19).extract 3 5) = tm at *
                generalize nmQ ((tx.extract 11 19).extract 6 (tx.extract 11 19).size) = ts at *
                generalize wkD tx = WK at *
                have x0 := blk_cell (i := 0) HS.out.box rfl
                have r0 := blk_cell (i := 0) HS.out.res rfl
                have f0 := blk_free (i := 0) HS.out.res
                have x1 := blk_cell (i := 1) HS.out.box rfl
                have r1 := blk_cell (i := 1) HS.out.res rfl
                have f1 := blk_free (i := 1) HS.out.res
                have x2 := blk_cell (i := 2) HS.out.box rfl
                have r2 := blk_cell (i := 2) HS.out.res rfl
                have f2 := blk_free (i := 2) HS.out.res
                have x3 := blk_cell (i := 3) HS.out.box rfl
                have r3 := blk_cell (i := 3) HS.out.res rfl
                have f3 := blk_free (i := 3) HS.out.res
                have x4 := blk_cell (i := 4) HS.out.box rfl
                have r4 := blk_cell (i := 4) HS.out.res rfl
                have f4 := blk_free (i := 4) HS.out.res
                have x5 := blk_cell (i := 5) HS.out.box rfl
                have r5 := blk_cell (i := 5) HS.out.res rfl
                have f5 := blk_free (i := 5) HS.out.res
                have hne : ¬ sh = w.heap.size := Nat.ne_of_gt HS.out.lt
                have hne2 : ¬ w.heap.size = sh := Nat.ne_of_lt HS.out.lt
                have RS := HS.out.fin Y MM D th tm ts
                unfold dSet at RS
                go_upto_region 45 with fail
                go_region
                go_wp2_with fail
                have z0 := blk_cell (i := 0) RS.1 rfl
                have z1 := blk_cell (i := 1) RS.1 rfl
                have z2 := blk_cell (i := 2) RS.1 rfl
                have z3 := blk_cell (i := 3) RS.1 rfl
                have z4 := blk_cell (i := 4) RS.1 rfl
                have z5 := blk_cell (i := 5) RS.1 rfl
                exact bodyPost_ret (v := .tuple #[.agg #[.int .i64 Y, .int .i64 MM, .int .i64 D, .int .i64 th, .int .i64 tm, .int .i64 ts], .int .i64 WK, .bool false]) (by simp [results, Tryz.results102, go_sem, z0, z1, z2, z3, z4, z5]) rfl (RetFo.bad hn.out RS.2)
              have pd2 : decide (0 ≤ dayD tx) = true := decide_eq_true hd
              by_cases hm : 1 ≤ ixD 12 moS (tx.extract 4 7) + 1
              rotate_left
              · skip
                have hn := Kp.mk (HNE.out (fun h => hm h.2.2.2.2.2.1))
                clear HNE HPO HBB HTT
                have pm : ixD 12 moS (tx.extract 4 7) + 1 < 1 := by omega
                have pm2 : decide (1 ≤ ixD 12 moS (tx.extract 4 7) + 1) = false := decide_eq_false hm
                generalize dayD tx = D at *
                generalize ixD 12 moS (tx.extract 4 7) + 1 = MM at *
                generalize nmQ (tx.extract 20 24) = Y at *
                generalize nmQ ((tx.extract 11 19).extract 0 2) = th at *
                generalize nmQ ((tx.extract 11 19).extract 3 5) = tm at *
                generalize nmQ ((tx.extract 11 19).extract 6 (tx.extract 11 19).size) = ts at *
                generalize wkD tx = WK at *
                have x0 := blk_cell (i := 0) HS.out.box rfl
                have r0 := blk_cell (i := 0) HS.out.res rfl
                have f0 := blk_free (i := 0) HS.out.res
                have x1 := blk_cell (i := 1) HS.out.box rfl
                have r1 := blk_cell (i := 1) HS.out.res rfl
                have f1 := blk_free (i := 1) HS.out.res
                have x2 := blk_cell (i := 2) HS.out.box rfl
                have r2 := blk_cell (i := 2) HS.out.res rfl
                have f2 := blk_free (i := 2) HS.out.res
                have x3 := blk_cell (i := 3) HS.out.box rfl
                have r3 := blk_cell (i := 3) HS.out.res rfl
                have f3 := blk_free (i := 3) HS.out.res
                have x4 := blk_cell (i := 4) HS.out.box rfl
                have r4 := blk_cell (i := 4) HS.out.res rfl
                have f4 := blk_free (i := 4) HS.out.res
                have x5 := blk_cell (i := 5) HS.out.box rfl
                have r5 := blk_cell (i := 5) HS.out.res rfl
                have f5 := blk_free (i := 5) HS.out.res
                have hne : ¬ sh = w.heap.size := Nat.ne_of_gt HS.out.lt
                have hne2 : ¬ w.heap.size = sh := Nat.ne_of_lt HS.out.lt
                have RS := HS.out.fin Y MM D th tm ts
                unfold dSet at RS
                go_upto_region 45 with fail
                go_region
                go_wp2_with fail
                have z0 := blk_cell (i := 0) RS.1 rfl
                have z1 := blk_cell (i := 1) RS.1 rfl
                have z2 := blk_cell (i := 2) RS.1 rfl
                have z3 := blk_cell (i := 3) RS.1 rfl
                have z4 := blk_cell (i := 4) RS.1 rfl
                have z5 := blk_cell (i := 5) RS.1 rfl
                exact bodyPost_ret (v := .tuple #[.agg #[.int .i64 Y, .int .i64 MM, .int .i64 D, .int .i64 th, .int .i64 tm, .int .i64 ts], .int .i64 WK, .bool false]) (by simp [results, Tryz.results102, go_sem, z0, z1, z2, z3, z4, z5]) rfl (RetFo.bad hn.out RS.2)
              have pm2 : decide (1 ≤ ixD 12 moS (tx.extract 4 7) + 1) = true := decide_eq_true hm
              by_cases hy : 0 ≤ nmQ (tx.extract 20 24)
              rotate_left
              · skip
                have hn := Kp.mk (HNE.out (fun h => hy h.2.2.2.2.2.2))
                clear HNE HPO HBB HTT
                have py : nmQ (tx.extract 20 24) < 0 := by omega
                have py2 : decide (0 ≤ nmQ (tx.extract 20 24)) = false := decide_eq_false hy
                generalize dayD tx = D at *
                generalize ixD 12 moS (tx.extract 4 7) + 1 = MM at *
                generalize nmQ (tx.extract 20 24) = Y at *
                generalize nmQ ((tx.extract 11 19).extract 0 2) = th at *
                generalize nmQ ((tx.extract 11 19).extract 3 5) = tm at *
                generalize nmQ ((tx.extract 11 19).extract 6 (tx.extract 11 19).size) = ts at *
                generalize wkD tx = WK at *
                have x0 := blk_cell (i := 0) HS.out.box rfl
                have r0 := blk_cell (i := 0) HS.out.res rfl
                have f0 := blk_free (i := 0) HS.out.res
                have x1 := blk_cell (i := 1) HS.out.box rfl
                have r1 := blk_cell (i := 1) HS.out.res rfl
                have f1 := blk_free (i := 1) HS.out.res
                have x2 := blk_cell (i := 2) HS.out.box rfl
                have r2 := blk_cell (i := 2) HS.out.res rfl
                have f2 := blk_free (i := 2) HS.out.res
                have x3 := blk_cell (i := 3) HS.out.box rfl
                have r3 := blk_cell (i := 3) HS.out.res rfl
                have f3 := blk_free (i := 3) HS.out.res
                have x4 := blk_cell (i := 4) HS.out.box rfl
                have r4 := blk_cell (i := 4) HS.out.res rfl
                have f4 := blk_free (i := 4) HS.out.res
                have x5 := blk_cell (i := 5) HS.out.box rfl
                have r5 := blk_cell (i := 5) HS.out.res rfl
                have f5 := blk_free (i := 5) HS.out.res
                have hne : ¬ sh = w.heap.size := Nat.ne_of_gt HS.out.lt
                have hne2 : ¬ w.heap.size = sh := Nat.ne_of_lt HS.out.lt
                have RS := HS.out.fin Y MM D th tm ts
                unfold dSet at RS
                go_upto_region 45 with fail
                go_region
                go_wp2_with fail
                have z0 := blk_cell (i := 0) RS.1 rfl
                have z1 := blk_cell (i := 1) RS.1 rfl
                have z2 := blk_cell (i := 2) RS.1 rfl
                have z3 := blk_cell (i := 3) RS.1 rfl
                have z4 := blk_cell (i := 4) RS.1 rfl
                have z5 := blk_cell (i := 5) RS.1 rfl
                exact bodyPost_ret (v := .tuple #[.agg #[.int .i64 Y, .int .i64 MM, .int .i64 D, .int .i64 th, .int .i64 tm, .int .i64 ts], .int .i64 WK, .bool false]) (by simp [results, Tryz.results102, go_sem, z0, z1, z2, z3, z4, z5]) rfl (RetFo.bad hn.out RS.2)
              have py2 : decide (0 ≤ nmQ (tx.extract 20 24)) = true := decide_eq_true hy
              · skip
                have hn := Kp.mk (show fo3 tx = some ⟨[], nmQ (tx.extract 20 24), ixD 12 moS (tx.extract 4 7) + 1, dayD tx, nmQ ((tx.extract 11 19).extract 0 2), nmQ ((tx.extract 11 19).extract 3 5), nmQ ((tx.extract 11 19).extract 6 (tx.extract 11 19).size), wkD tx⟩ from HPO.out ⟨hV0, ⟨h24, h3, h7, h10, h19⟩, hT, hH, hd, hm, hy⟩)
                clear HNE HPO HBB HTT
                skip
                generalize dayD tx = D at *
                generalize ixD 12 moS (tx.extract 4 7) + 1 = MM at *
                generalize nmQ (tx.extract 20 24) = Y at *
                generalize nmQ ((tx.extract 11 19).extract 0 2) = th at *
                generalize nmQ ((tx.extract 11 19).extract 3 5) = tm at *
                generalize nmQ ((tx.extract 11 19).extract 6 (tx.extract 11 19).size) = ts at *
                generalize wkD tx = WK at *
                have x0 := blk_cell (i := 0) HS.out.box rfl
                have r0 := blk_cell (i := 0) HS.out.res rfl
                have f0 := blk_free (i := 0) HS.out.res
                have x1 := blk_cell (i := 1) HS.out.box rfl
                have r1 := blk_cell (i := 1) HS.out.res rfl
                have f1 := blk_free (i := 1) HS.out.res
                have x2 := blk_cell (i := 2) HS.out.box rfl
                have r2 := blk_cell (i := 2) HS.out.res rfl
                have f2 := blk_free (i := 2) HS.out.res
                have x3 := blk_cell (i := 3) HS.out.box rfl
                have r3 := blk_cell (i := 3) HS.out.res rfl
                have f3 := blk_free (i := 3) HS.out.res
                have x4 := blk_cell (i := 4) HS.out.box rfl
                have r4 := blk_cell (i := 4) HS.out.res rfl
                have f4 := blk_free (i := 4) HS.out.res
                have x5 := blk_cell (i := 5) HS.out.box rfl
                have r5 := blk_cell (i := 5) HS.out.res rfl
                have f5 := blk_free (i := 5) HS.out.res
                have hne : ¬ sh = w.heap.size := Nat.ne_of_gt HS.out.lt
                have hne2 : ¬ w.heap.size = sh := Nat.ne_of_lt HS.out.lt
                have RS := HS.out.fin Y MM D th tm ts
                unfold dSet at RS
                go_upto_region 45 with fail
                go_region
                go_wp2_with fail
                have z0 := blk_cell (i := 0) RS.1 rfl
                have z1 := blk_cell (i := 1) RS.1 rfl
                have z2 := blk_cell (i := 2) RS.1 rfl
                have z3 := blk_cell (i := 3) RS.1 rfl
                have z4 := blk_cell (i := 4) RS.1 rfl
                have z5 := blk_cell (i := 5) RS.1 rfl
                exact bodyPost_ret (v := .tuple #[.agg #[.int .i64 Y, .int .i64 MM, .int .i64 D, .int .i64 th, .int .i64 tm, .int .i64 ts], .int .i64 WK, .bool true]) (by simp [results, Tryz.results102, go_sem, z0, z1, z2, z3, z4, z5]) rfl (RetFo.good hn.out RS.2)
end Go.Proofs.YtgamekfickheaaaGreat
