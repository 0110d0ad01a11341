/- Dates of fields (layer 6): the document's Form, form 2 (bin/mkdtr.py). -/
import Derived.Test.YtgamekfickheaaaGreatDtr
import Derived.BigRegion
import Derived.Deep.DeepCutAuto
namespace Go.Proofs.YtgamekfickheaaaGreat
open Go.RowKit
set_option linter.unusedVariables false
set_option linter.unusedSimpArgs false

set_option maxRecDepth 100000 in
set_option maxHeartbeats 4000000 in
theorem dform2 (tx : ByteArray) (now : Int) (a : Nat) (w : World) (hs : tx.size ≤ 100000) (hc : Cma tx a) (n0 : -9223372036854775808 ≤ now) (n1 : now ≤ 9223372036854775807) (hpl : placeB (now / 86400) = true) :
    Calls Tryz.prog 102 #[.string tx, .int .i64 2, .int .i64 now] w (RetFo (fo2 tx a (fun y => latI y (yrN now + 50))) w) := by
  have HX := Kp.mk (DF.new w)
  have HNE := Kp.mk (@fo2_neg tx a (fun y => latI y (yrN now + 50)))
  have HPO := Kp.mk (@fo2_pos tx a (fun y => latI y (yrN now + 50)))
  have HIF := Kp.mk (show f2P tx a ↔ (0 ≤ ixD 7 wdS (tx.extract 0 a) ∧ f2C (tx.extract a tx.size) ∧ 0 ≤ nmQ ((tx.extract a tx.size).extract 2 4) ∧ 1 ≤ ixD 12 moS ((tx.extract a tx.size).extract 5 8) + 1 ∧ 0 ≤ nmQ ((tx.extract a tx.size).extract 9 11) ∧ tmC ((tx.extract a tx.size).extract 12 20) ∧ hmsB ((tx.extract a tx.size).extract 12 20) = true) from Iff.rfl)
  have hyr : 1 ≤ yrN now ∧ yrN now ≤ 9999 := ⟨(date_ranges now hpl).1, (date_ranges now hpl).2.1⟩
  obtain ⟨m9, d9, h9, i9, s9, hda⟩ : ∃ m9 d9 h9 i9 s9 : Int, ∀ w, Calls Tryz.prog 83 #[.int .i64 now] w fun e w' => e = .returned (.tuple #[.agg #[.int .i64 (yrN now), .int .i64 m9, .int .i64 d9, .int .i64 h9, .int .i64 i9, .int .i64 s9], .bool true]) ∧ Below w.heap.size w w' :=
    ⟨_, _, _, _, _, fun w => by have := ref_date_any now w n0 n1; rw [hpl] at this; exact this⟩
  have HDA := Kp.mk hda
  have HC := Kp.mk hc
  have hle := hc.le
  clear hda hc hpl
  (try dsimp only at HPO)
  generalize hfo : fo2 tx a (fun y => latI y (yrN now + 50)) = FO at *
  clear hfo
  generalize yrN now = yn at *
  go_enter Tryz.func102, Tryz.ntmps102
  go_wp2_with fail
  generalize hW0 : ((w.alloc (.cells #[.int .i64 0, .int .i64 0, .int .i64 0, .int .i64 0, .int .i64 0, .int .i64 0] 66)).alloc (.cells #[.int .i64 0, .int .i64 0, .int .i64 0, .int .i64 0, .int .i64 0, .int .i64 0] 66)) = W0 at *
  clear hW0
  go_loop [11] (fun i => ∃ k : Nat, k ≤ a ∧ i = .int .i64 k) (fun i => a - (intOf i).toNat)
  case atStart => exact ⟨0, Nat.zero_le _, rfl⟩
  case round =>
    obtain ⟨k, hk, rfl⟩ := hrel
    by_cases hlt : k < a
    · have hls : k < tx.size := by omega
      have gk := bt_at tx k hls
      have tk : ((tx[k].toNat : Int) != 44) = true := by rw [gk, bne_iff_ne]; have := HC.out.bef k hlt; omega
      have q1 : (k : Int) < (tx.size : Int) := by omega
      have q0 : (0 : Int) ≤ (k : Int) := by omega
      clear gk
      go_wp2_with fail
      go_round
      case rel => exact ⟨k + 1, by omega, by go_num⟩
      case measure => simp [intOf]; omega
    obtain rfl : k = a := by omega
    have q0 : (0 : Int) ≤ (k : Int) := by omega
    have q2 : (k : Int) ≤ (tx.size : Int) := by omega
    rcases Nat.lt_or_ge k tx.size with hls | hls
    rotate_left
    · have q1 : ¬ (k : Int) < (tx.size : Int) := by omega
      have hrs : (tx.extract k tx.size).size = 0 := by rw [ByteArray.size_extract]; omega
      go_upto_region 6 with fail
      refine wp_region_held_drew (S := fun _ => True) (by kernel_rfl) (trivial) (fun hHeld => ?_)
      refine wpAnyH_take (i := 1) (oi := ⟨some 37, .move (.tmp 0), _, _, _, none⟩) (v := ?_) rfl (by kernel_rfl) (by kernel_rfl) (by kernel_rfl) (fun _ _ _ h => h) (Or.inl ⟨by rfl, ?_⟩) (by assumption) ?_
      rotate_left
      · intro w hSw
        try dsimp only at hSw
        go_simp
        try with_reducible rfl
      try simp only [Act.put, List.setIfInBounds_toArray, List.set_cons_zero, List.set_cons_succ]
      refine wpAnyH_take (i := 2) (oi := ⟨some 38, .move (.tmp 11), _, _, _, none⟩) (v := ?_) rfl (by kernel_rfl) (by kernel_rfl) (by kernel_rfl) (fun _ _ _ h => h) (Or.inl ⟨by rfl, ?_⟩) (by assumption) ?_
      rotate_left
      · intro w hSw
        try dsimp only at hSw
        go_simp
        try with_reducible rfl
      try simp only [Act.put, List.setIfInBounds_toArray, List.set_cons_zero, List.set_cons_succ]
      refine wpAnyH_take (i := 3) (oi := ⟨some 39, .slice 9 (.tmp 37) none (some (.tmp 38)) none, _, _, _, none⟩) (v := ?_) rfl (by kernel_rfl) (by kernel_rfl) (by kernel_rfl) (fun _ _ _ h => h) (Or.inl ⟨by rfl, ?_⟩) (by assumption) ?_
      rotate_left
      · intro w hSw
        try dsimp only at hSw
        go_simp
        try with_reducible rfl
      try simp only [Act.put, List.setIfInBounds_toArray, List.set_cons_zero, List.set_cons_succ]
      refine wpAnyH_ready (rs := [0]) (by kernel_rfl) (by simp) ?_
      refine AllReadyH.cons (o := ⟨some 36, _, _, _, _, none⟩) rfl (fun K hK => ?_) AllReadyH.nil
      go_simp
      (go_at_call 106; refine (rdays6_any _).mono ?_; rintro e wn ⟨rfl, hb, hk⟩)
      replace hk := (show wn.heap[W0.heap.size]? = some (.cells wdC 9 (0, 0)) by simpa using hk)
      have HK := Kp.mk hk
      have HD2 := Kp.mk (HX.out.below ((gdrewN _ 1).trans hb))
      clear hb hk
      try go_wp2_with fail
      refine hK.out _ _ (trivial) (fun hHeld2 => ?_)
      clear hK K
      try simp only [Act.put, List.setIfInBounds_toArray, List.set_cons_zero, List.set_cons_succ]
      refine wpAnyH_ready (rs := [4]) (by kernel_rfl) (by simp) ?_
      refine AllReadyH.cons (o := ⟨some 40, _, _, _, _, none⟩) rfl (fun K hK => ?_) AllReadyH.nil
      go_simp
      (go_at_call 127; refine (dindex_any 7 wdS wdC _ _ _ (by decide) (fun k h => wdC_at k h) HK.out).mono ?_; rintro e wn2 ⟨rfl, hb⟩)
      replace HD2 := Kp.mk (HD2.out.below hb)
      clear hb HK
      try go_wp2_with fail
      refine hK.out _ _ (trivial) (fun hHeld2 => ?_)
      clear hK K
      try simp only [Act.put, List.setIfInBounds_toArray, List.set_cons_zero, List.set_cons_succ]
      refine wpAnyH_take (i := 5) (oi := ⟨some 10, .assign (.tmp 40), _, _, _, none⟩) (v := ?_) rfl (by kernel_rfl) (by kernel_rfl) (by kernel_rfl) (fun _ _ _ h => h) (Or.inl ⟨by rfl, ?_⟩) (by assumption) ?_
      rotate_left
      · intro w hSw
        try dsimp only at hSw
        go_simp
        try with_reducible rfl
      try simp only [Act.put, List.setIfInBounds_toArray, List.set_cons_zero, List.set_cons_succ]
      refine wpAnyH_done (by kernel_rfl) ?_ _
      generalize hr : tx.extract k tx.size = r at *
      generalize hU : ixD 7 wdS (tx.extract 0 k) = U at *
      have hn := Kp.mk (HNE.out (fun h => by have h2 := (HIF.out.1 h).2.1.1; omega))
      have tz : ((r.size : Int) != 24) = true := by rw [bne_iff_ne]; omega
      clear HNE HPO HIF
      by_cases hU0 : U < 0
      · skip
        have c0 := blk_cell (i := 0) HD2.out.box rfl
        have c1 := blk_cell (i := 1) HD2.out.box rfl
        have c2 := blk_cell (i := 2) HD2.out.box rfl
        have c3 := blk_cell (i := 3) HD2.out.box rfl
        have c4 := blk_cell (i := 4) HD2.out.box rfl
        have c5 := blk_cell (i := 5) HD2.out.box rfl
        have r0 := blk_cell (i := 0) HD2.out.res rfl
        have f0 := blk_free (i := 0) HD2.out.res
        have r1 := blk_cell (i := 1) HD2.out.res rfl
        have f1 := blk_free (i := 1) HD2.out.res
        have r2 := blk_cell (i := 2) HD2.out.res rfl
        have f2 := blk_free (i := 2) HD2.out.res
        have r3 := blk_cell (i := 3) HD2.out.res rfl
        have f3 := blk_free (i := 3) HD2.out.res
        have r4 := blk_cell (i := 4) HD2.out.res rfl
        have f4 := blk_free (i := 4) HD2.out.res
        have r5 := blk_cell (i := 5) HD2.out.res rfl
        have f5 := blk_free (i := 5) HD2.out.res
        have RS := HD2.out.done (0) (0) (0) (0) (0) (0)
        unfold dSet at RS
        go_wp2_with fail
        have z0 := blk_cell (i := 0) RS.1 rfl
        have z1 := blk_cell (i := 1) RS.1 rfl
        have z2 := blk_cell (i := 2) RS.1 rfl
        have z3 := blk_cell (i := 3) RS.1 rfl
        have z4 := blk_cell (i := 4) RS.1 rfl
        have z5 := blk_cell (i := 5) RS.1 rfl
        exact bodyPost_ret (v := .tuple #[.agg #[.int .i64 0, .int .i64 0, .int .i64 0, .int .i64 0, .int .i64 0, .int .i64 0], .int .i64 0, .bool false]) (by simp [results, Tryz.results102, go_sem, z0, z1, z2, z3, z4, z5]) rfl (RetFo.bad hn.out RS.2)
      · skip
        have c0 := blk_cell (i := 0) HD2.out.box rfl
        have c1 := blk_cell (i := 1) HD2.out.box rfl
        have c2 := blk_cell (i := 2) HD2.out.box rfl
        have c3 := blk_cell (i := 3) HD2.out.box rfl
        have c4 := blk_cell (i := 4) HD2.out.box rfl
        have c5 := blk_cell (i := 5) HD2.out.box rfl
        have r0 := blk_cell (i := 0) HD2.out.res rfl
        have f0 := blk_free (i := 0) HD2.out.res
        have r1 := blk_cell (i := 1) HD2.out.res rfl
        have f1 := blk_free (i := 1) HD2.out.res
        have r2 := blk_cell (i := 2) HD2.out.res rfl
        have f2 := blk_free (i := 2) HD2.out.res
        have r3 := blk_cell (i := 3) HD2.out.res rfl
        have f3 := blk_free (i := 3) HD2.out.res
        have r4 := blk_cell (i := 4) HD2.out.res rfl
        have f4 := blk_free (i := 4) HD2.out.res
        have r5 := blk_cell (i := 5) HD2.out.res rfl
        have f5 := blk_free (i := 5) HD2.out.res
        have RS := HD2.out.done (0) (0) (0) (0) (0) (0)
        unfold dSet at RS
        go_wp2_with fail
        have z0 := blk_cell (i := 0) RS.1 rfl
        have z1 := blk_cell (i := 1) RS.1 rfl
        have z2 := blk_cell (i := 2) RS.1 rfl
        have z3 := blk_cell (i := 3) RS.1 rfl
        have z4 := blk_cell (i := 4) RS.1 rfl
        have z5 := blk_cell (i := 5) RS.1 rfl
        exact bodyPost_ret (v := .tuple #[.agg #[.int .i64 0, .int .i64 0, .int .i64 0, .int .i64 0, .int .i64 0, .int .i64 0], .int .i64 0, .bool false]) (by simp [results, Tryz.results102, go_sem, z0, z1, z2, z3, z4, z5]) rfl (RetFo.bad hn.out RS.2)
    have gk := bt_at tx k hls
    have tk : ((tx[k].toNat : Int) != 44) = false := by rw [gk, HC.out.at_ hls]; rfl
    have q1 : (k : Int) < (tx.size : Int) := by omega
    clear gk
    go_upto_region 6 with fail
    refine wp_region_held_drew (S := fun _ => True) (by kernel_rfl) (trivial) (fun hHeld => ?_)
    refine wpAnyH_take (i := 1) (oi := ⟨some 37, .move (.tmp 0), _, _, _, none⟩) (v := ?_) rfl (by kernel_rfl) (by kernel_rfl) (by kernel_rfl) (fun _ _ _ h => h) (Or.inl ⟨by rfl, ?_⟩) (by assumption) ?_
    rotate_left
    · intro w hSw
      try dsimp only at hSw
      go_simp
      try with_reducible rfl
    try simp only [Act.put, List.setIfInBounds_toArray, List.set_cons_zero, List.set_cons_succ]
    refine wpAnyH_take (i := 2) (oi := ⟨some 38, .move (.tmp 11), _, _, _, none⟩) (v := ?_) rfl (by kernel_rfl) (by kernel_rfl) (by kernel_rfl) (fun _ _ _ h => h) (Or.inl ⟨by rfl, ?_⟩) (by assumption) ?_
    rotate_left
    · intro w hSw
      try dsimp only at hSw
      go_simp
      try with_reducible rfl
    try simp only [Act.put, List.setIfInBounds_toArray, List.set_cons_zero, List.set_cons_succ]
    refine wpAnyH_take (i := 3) (oi := ⟨some 39, .slice 9 (.tmp 37) none (some (.tmp 38)) none, _, _, _, none⟩) (v := ?_) rfl (by kernel_rfl) (by kernel_rfl) (by kernel_rfl) (fun _ _ _ h => h) (Or.inl ⟨by rfl, ?_⟩) (by assumption) ?_
    rotate_left
    · intro w hSw
      try dsimp only at hSw
      go_simp
      try with_reducible rfl
    try simp only [Act.put, List.setIfInBounds_toArray, List.set_cons_zero, List.set_cons_succ]
    refine wpAnyH_ready (rs := [0]) (by kernel_rfl) (by simp) ?_
    refine AllReadyH.cons (o := ⟨some 36, _, _, _, _, none⟩) rfl (fun K hK => ?_) AllReadyH.nil
    go_simp
    (go_at_call 106; refine (rdays6_any _).mono ?_; rintro e wn ⟨rfl, hb, hk⟩)
    replace hk := (show wn.heap[W0.heap.size]? = some (.cells wdC 9 (0, 0)) by simpa using hk)
    have HK := Kp.mk hk
    have HD2 := Kp.mk (HX.out.below ((gdrewN _ 1).trans hb))
    clear hb hk
    try go_wp2_with fail
    refine hK.out _ _ (trivial) (fun hHeld2 => ?_)
    clear hK K
    try simp only [Act.put, List.setIfInBounds_toArray, List.set_cons_zero, List.set_cons_succ]
    refine wpAnyH_ready (rs := [4]) (by kernel_rfl) (by simp) ?_
    refine AllReadyH.cons (o := ⟨some 40, _, _, _, _, none⟩) rfl (fun K hK => ?_) AllReadyH.nil
    go_simp
    (go_at_call 127; refine (dindex_any 7 wdS wdC _ _ _ (by decide) (fun k h => wdC_at k h) HK.out).mono ?_; rintro e wn2 ⟨rfl, hb⟩)
    replace HD2 := Kp.mk (HD2.out.below hb)
    clear hb HK
    try go_wp2_with fail
    refine hK.out _ _ (trivial) (fun hHeld2 => ?_)
    clear hK K
    try simp only [Act.put, List.setIfInBounds_toArray, List.set_cons_zero, List.set_cons_succ]
    refine wpAnyH_take (i := 5) (oi := ⟨some 10, .assign (.tmp 40), _, _, _, none⟩) (v := ?_) rfl (by kernel_rfl) (by kernel_rfl) (by kernel_rfl) (fun _ _ _ h => h) (Or.inl ⟨by rfl, ?_⟩) (by assumption) ?_
    rotate_left
    · intro w hSw
      try dsimp only at hSw
      go_simp
      try with_reducible rfl
    try simp only [Act.put, List.setIfInBounds_toArray, List.set_cons_zero, List.set_cons_succ]
    refine wpAnyH_done (by kernel_rfl) ?_ _
    generalize hr : tx.extract k tx.size = r at *
    generalize hU : ixD 7 wdS (tx.extract 0 k) = U at *
    by_cases hU0 : U < 0
    · have hn := Kp.mk (HNE.out (fun h => by have h2 := (HIF.out.1 h).1; omega))
      clear HNE HPO HIF
      have c0 := blk_cell (i := 0) HD2.out.box rfl
      have c1 := blk_cell (i := 1) HD2.out.box rfl
      have c2 := blk_cell (i := 2) HD2.out.box rfl
      have c3 := blk_cell (i := 3) HD2.out.box rfl
      have c4 := blk_cell (i := 4) HD2.out.box rfl
      have c5 := blk_cell (i := 5) HD2.out.box rfl
      have r0 := blk_cell (i := 0) HD2.out.res rfl
      have f0 := blk_free (i := 0) HD2.out.res
      have r1 := blk_cell (i := 1) HD2.out.res rfl
      have f1 := blk_free (i := 1) HD2.out.res
      have r2 := blk_cell (i := 2) HD2.out.res rfl
      have f2 := blk_free (i := 2) HD2.out.res
      have r3 := blk_cell (i := 3) HD2.out.res rfl
      have f3 := blk_free (i := 3) HD2.out.res
      have r4 := blk_cell (i := 4) HD2.out.res rfl
      have f4 := blk_free (i := 4) HD2.out.res
      have r5 := blk_cell (i := 5) HD2.out.res rfl
      have f5 := blk_free (i := 5) HD2.out.res
      have RS := HD2.out.done (0) (0) (0) (0) (0) (0)
      unfold dSet at RS
      go_wp2_with fail
      have z0 := blk_cell (i := 0) RS.1 rfl
      have z1 := blk_cell (i := 1) RS.1 rfl
      have z2 := blk_cell (i := 2) RS.1 rfl
      have z3 := blk_cell (i := 3) RS.1 rfl
      have z4 := blk_cell (i := 4) RS.1 rfl
      have z5 := blk_cell (i := 5) RS.1 rfl
      exact bodyPost_ret (v := .tuple #[.agg #[.int .i64 0, .int .i64 0, .int .i64 0, .int .i64 0, .int .i64 0, .int .i64 0], .int .i64 0, .bool false]) (by simp [results, Tryz.results102, go_sem, z0, z1, z2, z3, z4, z5]) rfl (RetFo.bad hn.out RS.2)
    by_cases hz : r.size = 24
    rotate_left
    · have hn := Kp.mk (HNE.out (fun h2 => by have h2 := (HIF.out.1 h2).2.1; unfold f2C at h2; exact hz (by simp only [h2])))
      have tz : ((r.size : Int) != 24) = true := by rw [bne_iff_ne]; omega
      clear HNE HPO HIF
      have c0 := blk_cell (i := 0) HD2.out.box rfl
      have c1 := blk_cell (i := 1) HD2.out.box rfl
      have c2 := blk_cell (i := 2) HD2.out.box rfl
      have c3 := blk_cell (i := 3) HD2.out.box rfl
      have c4 := blk_cell (i := 4) HD2.out.box rfl
      have c5 := blk_cell (i := 5) HD2.out.box rfl
      have r0 := blk_cell (i := 0) HD2.out.res rfl
      have f0 := blk_free (i := 0) HD2.out.res
      have r1 := blk_cell (i := 1) HD2.out.res rfl
      have f1 := blk_free (i := 1) HD2.out.res
      have r2 := blk_cell (i := 2) HD2.out.res rfl
      have f2 := blk_free (i := 2) HD2.out.res
      have r3 := blk_cell (i := 3) HD2.out.res rfl
      have f3 := blk_free (i := 3) HD2.out.res
      have r4 := blk_cell (i := 4) HD2.out.res rfl
      have f4 := blk_free (i := 4) HD2.out.res
      have r5 := blk_cell (i := 5) HD2.out.res rfl
      have f5 := blk_free (i := 5) HD2.out.res
      have RS := HD2.out.done (0) (0) (0) (0) (0) (0)
      unfold dSet at RS
      go_wp2_with fail
      have z0 := blk_cell (i := 0) RS.1 rfl
      have z1 := blk_cell (i := 1) RS.1 rfl
      have z2 := blk_cell (i := 2) RS.1 rfl
      have z3 := blk_cell (i := 3) RS.1 rfl
      have z4 := blk_cell (i := 4) RS.1 rfl
      have z5 := blk_cell (i := 5) RS.1 rfl
      exact bodyPost_ret (v := .tuple #[.agg #[.int .i64 0, .int .i64 0, .int .i64 0, .int .i64 0, .int .i64 0, .int .i64 0], .int .i64 0, .bool false]) (by simp [results, Tryz.results102, go_sem, z0, z1, z2, z3, z4, z5]) rfl (RetFo.bad hn.out RS.2)
    have tz : ((r.size : Int) != 24) = false := by rw [bne_eq_false_iff_eq]; omega
    have qz : (r.size : Int) = 24 := by omega
    by_cases h0 : r.extract 0 2 = ⟨#[44, 32]⟩
    rotate_left
    · have hn := Kp.mk (HNE.out (fun h2 => by have h2 := (HIF.out.1 h2).2.1; unfold f2C at h2; exact h0 (by simp only [h2])))
      have t0 : ¬ (r.extract 0 2).toList = [44, 32] := fun e => h0 (ba_tl6.1 (e.trans (by rw [ByteArray.toList_eq])))
      have b0 : ((r.extract 0 2).toList == [44, 32]) = false := by rw [beq_eq_false_iff_ne]; exact t0
      clear HNE HPO HIF
      have c0 := blk_cell (i := 0) HD2.out.box rfl
      have c1 := blk_cell (i := 1) HD2.out.box rfl
      have c2 := blk_cell (i := 2) HD2.out.box rfl
      have c3 := blk_cell (i := 3) HD2.out.box rfl
      have c4 := blk_cell (i := 4) HD2.out.box rfl
      have c5 := blk_cell (i := 5) HD2.out.box rfl
      have r0 := blk_cell (i := 0) HD2.out.res rfl
      have f0 := blk_free (i := 0) HD2.out.res
      have r1 := blk_cell (i := 1) HD2.out.res rfl
      have f1 := blk_free (i := 1) HD2.out.res
      have r2 := blk_cell (i := 2) HD2.out.res rfl
      have f2 := blk_free (i := 2) HD2.out.res
      have r3 := blk_cell (i := 3) HD2.out.res rfl
      have f3 := blk_free (i := 3) HD2.out.res
      have r4 := blk_cell (i := 4) HD2.out.res rfl
      have f4 := blk_free (i := 4) HD2.out.res
      have r5 := blk_cell (i := 5) HD2.out.res rfl
      have f5 := blk_free (i := 5) HD2.out.res
      have RS := HD2.out.done (0) (0) (0) (0) (0) (0)
      unfold dSet at RS
      go_wp2_with fail
      have z0 := blk_cell (i := 0) RS.1 rfl
      have z1 := blk_cell (i := 1) RS.1 rfl
      have z2 := blk_cell (i := 2) RS.1 rfl
      have z3 := blk_cell (i := 3) RS.1 rfl
      have z4 := blk_cell (i := 4) RS.1 rfl
      have z5 := blk_cell (i := 5) RS.1 rfl
      exact bodyPost_ret (v := .tuple #[.agg #[.int .i64 0, .int .i64 0, .int .i64 0, .int .i64 0, .int .i64 0, .int .i64 0], .int .i64 0, .bool false]) (by simp [results, Tryz.results102, go_sem, z0, z1, z2, z3, z4, z5]) rfl (RetFo.bad hn.out RS.2)
    have t0 : (r.extract 0 2).toList = [44, 32] := by rw [h0, ByteArray.toList_eq]
    have b0 : ((r.extract 0 2).toList == [44, 32]) = true := by rw [t0]; rfl
    by_cases h4 : bt r 4 = 45
    rotate_left
    · have hn := Kp.mk (HNE.out (fun h2 => by have h2 := (HIF.out.1 h2).2.1; unfold f2C at h2; exact h4 (by simp only [h2])))
      have g4 := bt_at r 4 (by omega)
      have t4 : ((r[4].toNat : Int) != 45) = true := by rw [g4, bne_iff_ne]; omega
      clear HNE HPO HIF
      have c0 := blk_cell (i := 0) HD2.out.box rfl
      have c1 := blk_cell (i := 1) HD2.out.box rfl
      have c2 := blk_cell (i := 2) HD2.out.box rfl
      have c3 := blk_cell (i := 3) HD2.out.box rfl
      have c4 := blk_cell (i := 4) HD2.out.box rfl
      have c5 := blk_cell (i := 5) HD2.out.box rfl
      have r0 := blk_cell (i := 0) HD2.out.res rfl
      have f0 := blk_free (i := 0) HD2.out.res
      have r1 := blk_cell (i := 1) HD2.out.res rfl
      have f1 := blk_free (i := 1) HD2.out.res
      have r2 := blk_cell (i := 2) HD2.out.res rfl
      have f2 := blk_free (i := 2) HD2.out.res
      have r3 := blk_cell (i := 3) HD2.out.res rfl
      have f3 := blk_free (i := 3) HD2.out.res
      have r4 := blk_cell (i := 4) HD2.out.res rfl
      have f4 := blk_free (i := 4) HD2.out.res
      have r5 := blk_cell (i := 5) HD2.out.res rfl
      have f5 := blk_free (i := 5) HD2.out.res
      have RS := HD2.out.done (0) (0) (0) (0) (0) (0)
      unfold dSet at RS
      go_wp2_with fail
      have z0 := blk_cell (i := 0) RS.1 rfl
      have z1 := blk_cell (i := 1) RS.1 rfl
      have z2 := blk_cell (i := 2) RS.1 rfl
      have z3 := blk_cell (i := 3) RS.1 rfl
      have z4 := blk_cell (i := 4) RS.1 rfl
      have z5 := blk_cell (i := 5) RS.1 rfl
      exact bodyPost_ret (v := .tuple #[.agg #[.int .i64 0, .int .i64 0, .int .i64 0, .int .i64 0, .int .i64 0, .int .i64 0], .int .i64 0, .bool false]) (by simp [results, Tryz.results102, go_sem, z0, z1, z2, z3, z4, z5]) rfl (RetFo.bad hn.out RS.2)
    have g4 := bt_at r 4 (by omega)
    have t4 : ((r[4].toNat : Int) != 45) = false := by rw [g4, h4]; rfl
    by_cases h8 : bt r 8 = 45
    rotate_left
    · have hn := Kp.mk (HNE.out (fun h2 => by have h2 := (HIF.out.1 h2).2.1; unfold f2C at h2; exact h8 (by simp only [h2])))
      have g8 := bt_at r 8 (by omega)
      have t8 : ((r[8].toNat : Int) != 45) = true := by rw [g8, bne_iff_ne]; omega
      clear HNE HPO HIF
      have c0 := blk_cell (i := 0) HD2.out.box rfl
      have c1 := blk_cell (i := 1) HD2.out.box rfl
      have c2 := blk_cell (i := 2) HD2.out.box rfl
      have c3 := blk_cell (i := 3) HD2.out.box rfl
      have c4 := blk_cell (i := 4) HD2.out.box rfl
      have c5 := blk_cell (i := 5) HD2.out.box rfl
      have r0 := blk_cell (i := 0) HD2.out.res rfl
      have f0 := blk_free (i := 0) HD2.out.res
      have r1 := blk_cell (i := 1) HD2.out.res rfl
      have f1 := blk_free (i := 1) HD2.out.res
      have r2 := blk_cell (i := 2) HD2.out.res rfl
      have f2 := blk_free (i := 2) HD2.out.res
      have r3 := blk_cell (i := 3) HD2.out.res rfl
      have f3 := blk_free (i := 3) HD2.out.res
      have r4 := blk_cell (i := 4) HD2.out.res rfl
      have f4 := blk_free (i := 4) HD2.out.res
      have r5 := blk_cell (i := 5) HD2.out.res rfl
      have f5 := blk_free (i := 5) HD2.out.res
      have RS := HD2.out.done (0) (0) (0) (0) (0) (0)
      unfold dSet at RS
      go_wp2_with fail
      have z0 := blk_cell (i := 0) RS.1 rfl
      have z1 := blk_cell (i := 1) RS.1 rfl
      have z2 := blk_cell (i := 2) RS.1 rfl
      have z3 := blk_cell (i := 3) RS.1 rfl
      have z4 := blk_cell (i := 4) RS.1 rfl
      have z5 := blk_cell (i := 5) RS.1 rfl
      exact bodyPost_ret (v := .tuple #[.agg #[.int .i64 0, .int .i64 0, .int .i64 0, .int .i64 0, .int .i64 0, .int .i64 0], .int .i64 0, .bool false]) (by simp [results, Tryz.results102, go_sem, z0, z1, z2, z3, z4, z5]) rfl (RetFo.bad hn.out RS.2)
    have g8 := bt_at r 8 (by omega)
    have t8 : ((r[8].toNat : Int) != 45) = false := by rw [g8, h8]; rfl
    by_cases h11 : bt r 11 = 32
    rotate_left
    · have hn := Kp.mk (HNE.out (fun h2 => by have h2 := (HIF.out.1 h2).2.1; unfold f2C at h2; exact h11 (by simp only [h2])))
      have g11 := bt_at r 11 (by omega)
      have t11 : ((r[11].toNat : Int) != 32) = true := by rw [g11, bne_iff_ne]; omega
      clear HNE HPO HIF
      have c0 := blk_cell (i := 0) HD2.out.box rfl
      have c1 := blk_cell (i := 1) HD2.out.box rfl
      have c2 := blk_cell (i := 2) HD2.out.box rfl
      have c3 := blk_cell (i := 3) HD2.out.box rfl
      have c4 := blk_cell (i := 4) HD2.out.box rfl
      have c5 := blk_cell (i := 5) HD2.out.box rfl
      have r0 := blk_cell (i := 0) HD2.out.res rfl
      have f0 := blk_free (i := 0) HD2.out.res
      have r1 := blk_cell (i := 1) HD2.out.res rfl
      have f1 := blk_free (i := 1) HD2.out.res
      have r2 := blk_cell (i := 2) HD2.out.res rfl
      have f2 := blk_free (i := 2) HD2.out.res
      have r3 := blk_cell (i := 3) HD2.out.res rfl
      have f3 := blk_free (i := 3) HD2.out.res
      have r4 := blk_cell (i := 4) HD2.out.res rfl
      have f4 := blk_free (i := 4) HD2.out.res
      have r5 := blk_cell (i := 5) HD2.out.res rfl
      have f5 := blk_free (i := 5) HD2.out.res
      have RS := HD2.out.done (0) (0) (0) (0) (0) (0)
      unfold dSet at RS
      go_wp2_with fail
      have z0 := blk_cell (i := 0) RS.1 rfl
      have z1 := blk_cell (i := 1) RS.1 rfl
      have z2 := blk_cell (i := 2) RS.1 rfl
      have z3 := blk_cell (i := 3) RS.1 rfl
      have z4 := blk_cell (i := 4) RS.1 rfl
      have z5 := blk_cell (i := 5) RS.1 rfl
      exact bodyPost_ret (v := .tuple #[.agg #[.int .i64 0, .int .i64 0, .int .i64 0, .int .i64 0, .int .i64 0, .int .i64 0], .int .i64 0, .bool false]) (by simp [results, Tryz.results102, go_sem, z0, z1, z2, z3, z4, z5]) rfl (RetFo.bad hn.out RS.2)
    have g11 := bt_at r 11 (by omega)
    have t11 : ((r[11].toNat : Int) != 32) = false := by rw [g11, h11]; rfl
    by_cases h20 : r.extract 20 24 = ⟨#[32, 71, 77, 84]⟩
    rotate_left
    · have hn := Kp.mk (HNE.out (fun h2 => by have h2 := (HIF.out.1 h2).2.1; unfold f2C at h2; exact h20 (by simp only [h2])))
      have t20 : ¬ (r.extract 20 24).toList = [32, 71, 77, 84] := fun e => h20 (ba_tl6.1 (e.trans (by rw [ByteArray.toList_eq])))
      have b20 : ((r.extract 20 24).toList == [32, 71, 77, 84]) = false := by rw [beq_eq_false_iff_ne]; exact t20
      clear HNE HPO HIF
      have c0 := blk_cell (i := 0) HD2.out.box rfl
      have c1 := blk_cell (i := 1) HD2.out.box rfl
      have c2 := blk_cell (i := 2) HD2.out.box rfl
      have c3 := blk_cell (i := 3) HD2.out.box rfl
      have c4 := blk_cell (i := 4) HD2.out.box rfl
      have c5 := blk_cell (i := 5) HD2.out.box rfl
      have r0 := blk_cell (i := 0) HD2.out.res rfl
      have f0 := blk_free (i := 0) HD2.out.res
      have r1 := blk_cell (i := 1) HD2.out.res rfl
      have f1 := blk_free (i := 1) HD2.out.res
      have r2 := blk_cell (i := 2) HD2.out.res rfl
      have f2 := blk_free (i := 2) HD2.out.res
      have r3 := blk_cell (i := 3) HD2.out.res rfl
      have f3 := blk_free (i := 3) HD2.out.res
      have r4 := blk_cell (i := 4) HD2.out.res rfl
      have f4 := blk_free (i := 4) HD2.out.res
      have r5 := blk_cell (i := 5) HD2.out.res rfl
      have f5 := blk_free (i := 5) HD2.out.res
      have RS := HD2.out.done (0) (0) (0) (0) (0) (0)
      unfold dSet at RS
      go_wp2_with fail
      have z0 := blk_cell (i := 0) RS.1 rfl
      have z1 := blk_cell (i := 1) RS.1 rfl
      have z2 := blk_cell (i := 2) RS.1 rfl
      have z3 := blk_cell (i := 3) RS.1 rfl
      have z4 := blk_cell (i := 4) RS.1 rfl
      have z5 := blk_cell (i := 5) RS.1 rfl
      exact bodyPost_ret (v := .tuple #[.agg #[.int .i64 0, .int .i64 0, .int .i64 0, .int .i64 0, .int .i64 0, .int .i64 0], .int .i64 0, .bool false]) (by simp [results, Tryz.results102, go_sem, z0, z1, z2, z3, z4, z5]) rfl (RetFo.bad hn.out RS.2)
    have t20 : (r.extract 20 24).toList = [32, 71, 77, 84] := by rw [h20, ByteArray.toList_eq]
    have b20 : ((r.extract 20 24).toList == [32, 71, 77, 84]) = true := by rw [t20]; rfl
    have hmr := ixD_range 12 moS (r.extract 5 8)
    have hwm : IntKind.i64.wrap (ixD 12 moS (r.extract 5 8) + 1) = ixD 12 moS (r.extract 5 8) + 1 := wrapQ _ (by omega) (by omega)
    have h99 : nmQ (r.extract 9 11) ≤ 99 := nm_two _ (by rw [ByteArray.size_extract]; omega)
    have b2 := blk_cell (i := 2) HD2.out.box rfl
    have g2 := blk_free (i := 2) HD2.out.box
    go_wp2_with fail
    refine (dnumber_any _ _ (by simp [maxLen]; omega)).mono ?_
    rintro e w1 ⟨rfl, rfl⟩
    have HD1 := Kp.mk (HD2.out.setD (nmQ (r.extract 2 4)))
    clear HD2
    go_upto_region 11 with fail
    clear b2 g2
    refine wp_region_held_drew (S := fun _ => True) (by kernel_rfl) (trivial) (fun hHeld => ?_)
    refine wpAnyH_take (i := 1) (oi := ⟨some 82, .move (.tmp 0), _, _, _, none⟩) (v := ?_) rfl (by kernel_rfl) (by kernel_rfl) (by kernel_rfl) (fun _ _ _ h => h) (Or.inl ⟨by rfl, ?_⟩) (by assumption) ?_
    rotate_left
    · intro w hSw
      try dsimp only at hSw
      go_simp
      try with_reducible rfl
    try simp only [Act.put, List.setIfInBounds_toArray, List.set_cons_zero, List.set_cons_succ]
    refine wpAnyH_take (i := 2) (oi := ⟨some 83, .slice 9 (.tmp 82) (some (.const (.int .i64 5))) (some (.const (.int .i64 8))) none, _, _, _, none⟩) (v := ?_) rfl (by kernel_rfl) (by kernel_rfl) (by kernel_rfl) (fun _ _ _ h => h) (Or.inl ⟨by rfl, ?_⟩) (by assumption) ?_
    rotate_left
    · intro w hSw
      try dsimp only at hSw
      go_simp
      try with_reducible rfl
    try simp only [Act.put, List.setIfInBounds_toArray, List.set_cons_zero, List.set_cons_succ]
    refine wpAnyH_ready (rs := [0]) (by kernel_rfl) (by simp) ?_
    refine AllReadyH.cons (o := ⟨some 81, _, _, _, _, none⟩) rfl (fun K hK => ?_) AllReadyH.nil
    go_simp
    (go_at_call 107; refine (rmonths6_any _).mono ?_; rintro e wn3 ⟨rfl, hb, hk⟩)
    replace hk := (show wn3.heap[w1.heap.size]? = some (.cells moC 9 (0, 0)) by simpa using hk)
    have HK := Kp.mk hk
    have HD2 := Kp.mk (HD1.out.below ((gdrewN _ 1).trans hb))
    clear hb hk
    try go_wp2_with fail
    refine hK.out _ _ (trivial) (fun hHeld2 => ?_)
    clear hK K
    try simp only [Act.put, List.setIfInBounds_toArray, List.set_cons_zero, List.set_cons_succ]
    refine wpAnyH_ready (rs := [3]) (by kernel_rfl) (by simp) ?_
    refine AllReadyH.cons (o := ⟨some 84, _, _, _, _, none⟩) rfl (fun K hK => ?_) AllReadyH.nil
    go_simp
    (go_at_call 127; refine (dindex_any 12 moS moC _ _ _ (by decide) (fun k h => moC_at k h) HK.out).mono ?_; rintro e wn4 ⟨rfl, hb⟩)
    replace HD2 := Kp.mk (HD2.out.below hb)
    have c1 := blk_cell (i := 1) HD2.out.box rfl
    have g1 := blk_free (i := 1) HD2.out.box
    clear hb
    try go_wp2_with fail
    refine hK.out _ _ (trivial) (fun hHeld2 => ?_)
    clear hK K
    try simp only [Act.put, List.setIfInBounds_toArray, List.set_cons_zero, List.set_cons_succ]
    refine wpAnyH_take (i := 4) (oi := ⟨some 85, .binOp .add 3 (.tmp 84) (.const (.int .i64 1)) 3, _, _, _, none⟩) (v := ?_) rfl (by kernel_rfl) (by kernel_rfl) (by kernel_rfl) (fun _ _ _ h => h) (Or.inl ⟨by rfl, ?_⟩) (by assumption) ?_
    rotate_left
    · intro w hSw
      try dsimp only at hSw
      go_simp
      try with_reducible rfl
    try simp only [Act.put, List.setIfInBounds_toArray, List.set_cons_zero, List.set_cons_succ]
    refine wpAnyH_take (i := 5) (oi := ⟨some 86, .fieldAddr 66 (.tmp 9) 1, _, _, _, none⟩) (v := ?_) rfl (by kernel_rfl) (by kernel_rfl) (by kernel_rfl) (fun _ _ _ h => h) (Or.inl ⟨by rfl, ?_⟩) (by assumption) ?_
    rotate_left
    · intro w hSw
      try dsimp only at hSw
      go_simp
      try with_reducible rfl
    try simp only [Act.put, List.setIfInBounds_toArray, List.set_cons_zero, List.set_cons_succ]
    refine wpAnyH_ready (rs := [6]) (by kernel_rfl) (by simp) ?_
    refine AllReadyH.cons (o := ⟨none, _, _, _, _, none⟩) rfl (fun K hK => ?_) AllReadyH.nil
    go_simp
    refine hK.out _ _ (trivial) (fun hHeld2 => ?_)
    clear hK K
    try simp only [Act.put, List.setIfInBounds_toArray, List.set_cons_zero, List.set_cons_succ]
    refine wpAnyH_done (by kernel_rfl) ?_ _
    have HD3 := Kp.mk (HD2.out.setM (ixD 12 moS (r.extract 5 8) + 1))
    clear c1 g1
    have c0 := blk_cell (i := 0) HD3.out.box rfl
    have g0 := blk_free (i := 0) HD3.out.box
    go_wp2_with fail
    refine (dnumber_any _ _ (by simp [maxLen]; omega)).mono ?_
    rintro e w2 ⟨rfl, rfl⟩
    have HD4 := Kp.mk (HD3.out.setY (nmQ (r.extract 9 11)))
    go_upto_region 13 with fail
    clear c0 g0
    generalize hW4 : ((wn4.setCell ⟨w.heap.size + 1, 1, none⟩ (.int .i64 (ixD 12 moS (r.extract 5 8) + 1))).setCell ⟨w.heap.size + 1, 0, none⟩ (.int .i64 (nmQ (r.extract 9 11)))) = W4 at *
    clear hW4 HD3 HD1 HD2
    have HFC := Kp.mk (show f2C r from ⟨hz, h0, h4, h8, h11, h20⟩)
    have hzr : (r.extract 12 20).size ≤ 100000 := by simp; omega
    have HTM := Kp.mk (fun y m d => dtime_any6 (r.extract 12 20) y m d hzr)
    clear hzr
    generalize nmQ (r.extract 2 4) = D at *
    generalize ixD 12 moS (r.extract 5 8) + 1 = MM at *
    generalize nmQ (r.extract 9 11) = YY at *
    by_cases hd : 0 ≤ D
    rotate_left
    · have hn := Kp.mk (HNE.out (fun h2 => hd (HIF.out.1 h2).2.2.1))
      have pd : D < 0 := by omega
      clear HNE HPO HIF HTM HDA
      have c0 := blk_cell (i := 0) HD4.out.box rfl
      have c1 := blk_cell (i := 1) HD4.out.box rfl
      have c2 := blk_cell (i := 2) HD4.out.box rfl
      have c3 := blk_cell (i := 3) HD4.out.box rfl
      have c4 := blk_cell (i := 4) HD4.out.box rfl
      have c5 := blk_cell (i := 5) HD4.out.box rfl
      have r0 := blk_cell (i := 0) HD4.out.res rfl
      have f0 := blk_free (i := 0) HD4.out.res
      have r1 := blk_cell (i := 1) HD4.out.res rfl
      have f1 := blk_free (i := 1) HD4.out.res
      have r2 := blk_cell (i := 2) HD4.out.res rfl
      have f2 := blk_free (i := 2) HD4.out.res
      have r3 := blk_cell (i := 3) HD4.out.res rfl
      have f3 := blk_free (i := 3) HD4.out.res
      have r4 := blk_cell (i := 4) HD4.out.res rfl
      have f4 := blk_free (i := 4) HD4.out.res
      have r5 := blk_cell (i := 5) HD4.out.res rfl
      have f5 := blk_free (i := 5) HD4.out.res
      have RS := HD4.out.done (YY) (MM) (D) (0) (0) (0)
      unfold dSet at RS
      go_wp2_with fail
      have z0 := blk_cell (i := 0) RS.1 rfl
      have z1 := blk_cell (i := 1) RS.1 rfl
      have z2 := blk_cell (i := 2) RS.1 rfl
      have z3 := blk_cell (i := 3) RS.1 rfl
      have z4 := blk_cell (i := 4) RS.1 rfl
      have z5 := blk_cell (i := 5) RS.1 rfl
      exact bodyPost_ret (v := .tuple #[.agg #[.int .i64 YY, .int .i64 MM, .int .i64 D, .int .i64 0, .int .i64 0, .int .i64 0], .int .i64 0, .bool false]) (by simp [results, Tryz.results102, go_sem, z0, z1, z2, z3, z4, z5]) rfl (RetFo.bad hn.out RS.2)
    have nhd : ¬ D < 0 := by omega
    by_cases hm : 1 ≤ MM
    rotate_left
    · have hn := Kp.mk (HNE.out (fun h2 => hm (HIF.out.1 h2).2.2.2.1))
      have pm : MM < 1 := by omega
      clear HNE HPO HIF HTM HDA
      have c0 := blk_cell (i := 0) HD4.out.box rfl
      have c1 := blk_cell (i := 1) HD4.out.box rfl
      have c2 := blk_cell (i := 2) HD4.out.box rfl
      have c3 := blk_cell (i := 3) HD4.out.box rfl
      have c4 := blk_cell (i := 4) HD4.out.box rfl
      have c5 := blk_cell (i := 5) HD4.out.box rfl
      have r0 := blk_cell (i := 0) HD4.out.res rfl
      have f0 := blk_free (i := 0) HD4.out.res
      have r1 := blk_cell (i := 1) HD4.out.res rfl
      have f1 := blk_free (i := 1) HD4.out.res
      have r2 := blk_cell (i := 2) HD4.out.res rfl
      have f2 := blk_free (i := 2) HD4.out.res
      have r3 := blk_cell (i := 3) HD4.out.res rfl
      have f3 := blk_free (i := 3) HD4.out.res
      have r4 := blk_cell (i := 4) HD4.out.res rfl
      have f4 := blk_free (i := 4) HD4.out.res
      have r5 := blk_cell (i := 5) HD4.out.res rfl
      have f5 := blk_free (i := 5) HD4.out.res
      have RS := HD4.out.done (YY) (MM) (D) (0) (0) (0)
      unfold dSet at RS
      go_wp2_with fail
      have z0 := blk_cell (i := 0) RS.1 rfl
      have z1 := blk_cell (i := 1) RS.1 rfl
      have z2 := blk_cell (i := 2) RS.1 rfl
      have z3 := blk_cell (i := 3) RS.1 rfl
      have z4 := blk_cell (i := 4) RS.1 rfl
      have z5 := blk_cell (i := 5) RS.1 rfl
      exact bodyPost_ret (v := .tuple #[.agg #[.int .i64 YY, .int .i64 MM, .int .i64 D, .int .i64 0, .int .i64 0, .int .i64 0], .int .i64 0, .bool false]) (by simp [results, Tryz.results102, go_sem, z0, z1, z2, z3, z4, z5]) rfl (RetFo.bad hn.out RS.2)
    have nhm : ¬ MM < 1 := by omega
    by_cases hy : 0 ≤ YY
    rotate_left
    · have hn := Kp.mk (HNE.out (fun h2 => hy (HIF.out.1 h2).2.2.2.2.1))
      have py : YY < 0 := by omega
      clear HNE HPO HIF HTM HDA
      have c0 := blk_cell (i := 0) HD4.out.box rfl
      have c1 := blk_cell (i := 1) HD4.out.box rfl
      have c2 := blk_cell (i := 2) HD4.out.box rfl
      have c3 := blk_cell (i := 3) HD4.out.box rfl
      have c4 := blk_cell (i := 4) HD4.out.box rfl
      have c5 := blk_cell (i := 5) HD4.out.box rfl
      have r0 := blk_cell (i := 0) HD4.out.res rfl
      have f0 := blk_free (i := 0) HD4.out.res
      have r1 := blk_cell (i := 1) HD4.out.res rfl
      have f1 := blk_free (i := 1) HD4.out.res
      have r2 := blk_cell (i := 2) HD4.out.res rfl
      have f2 := blk_free (i := 2) HD4.out.res
      have r3 := blk_cell (i := 3) HD4.out.res rfl
      have f3 := blk_free (i := 3) HD4.out.res
      have r4 := blk_cell (i := 4) HD4.out.res rfl
      have f4 := blk_free (i := 4) HD4.out.res
      have r5 := blk_cell (i := 5) HD4.out.res rfl
      have f5 := blk_free (i := 5) HD4.out.res
      have RS := HD4.out.done (YY) (MM) (D) (0) (0) (0)
      unfold dSet at RS
      go_wp2_with fail
      have z0 := blk_cell (i := 0) RS.1 rfl
      have z1 := blk_cell (i := 1) RS.1 rfl
      have z2 := blk_cell (i := 2) RS.1 rfl
      have z3 := blk_cell (i := 3) RS.1 rfl
      have z4 := blk_cell (i := 4) RS.1 rfl
      have z5 := blk_cell (i := 5) RS.1 rfl
      exact bodyPost_ret (v := .tuple #[.agg #[.int .i64 YY, .int .i64 MM, .int .i64 D, .int .i64 0, .int .i64 0, .int .i64 0], .int .i64 0, .bool false]) (by simp [results, Tryz.results102, go_sem, z0, z1, z2, z3, z4, z5]) rfl (RetFo.bad hn.out RS.2)
    have nhy : ¬ YY < 0 := by omega
    have e0 := blk_cell (i := 0) HD4.out.box rfl
    have e1 := blk_cell (i := 1) HD4.out.box rfl
    have e2 := blk_cell (i := 2) HD4.out.box rfl
    have pd : ¬ D < 0 := by omega
    have pm : ¬ MM < 1 := by omega
    have py : ¬ YY < 0 := by omega
    go_wp2_with fail
    refine (HDA.out _).mono ?_
    rintro e w3 ⟨rfl, hb⟩
    have HD5 := Kp.mk ((HD4.out.below hb).below ((Below.refl w3.heap.size w3).alloc (Nat.le_refl _) (.cells #[.int .i64 yn, .int .i64 m9, .int .i64 d9, .int .i64 h9, .int .i64 i9, .int .i64 s9] 66)))
    clear e0 e1 e2 hb HD4 HDA
    have hw50 : IntKind.i64.wrap (yn + 50) = yn + 50 := wrapQ _ (by omega) (by omega)
    go_wp2_with fail
    generalize hW5 : (w3.alloc (.cells #[.int .i64 yn, .int .i64 m9, .int .i64 d9, .int .i64 h9, .int .i64 i9, .int .i64 s9] 66)) = W5 at *
    clear hW5 hw50
    have hmb : 51 ≤ yn + 50 ∧ yn + 50 ≤ 10049 := by omega
    generalize yn + 50 = most at *
    have HLA := Kp.mk (show latI YY most = most - (most - YY) % 100 from rfl)
    have e0 := blk_cell (i := 0) HD5.out.box rfl
    have g0 := blk_free (i := 0) HD5.out.box
    have hqb : 0 ≤ (most - YY) % 100 ∧ (most - YY) % 100 < 100 := by omega
    have hqe : (most - (most - YY) % 100) % 100 = YY := by omega
    have hqn : ∀ j : Int, 0 ≤ j → j < (most - YY) % 100 → (most - j) % 100 ≠ YY := by intro j h1 h2; omega
    generalize (most - YY) % 100 = q at *
    go_loop [14] (fun v => ∃ j : Nat, (j : Int) ≤ q ∧ v = .int .i64 (most - j)) (fun v => (intOf v - (most - q)).toNat)
    case atStart => exact ⟨0, by omega, by go_num⟩
    case round =>
      obtain ⟨j, hj, rfl⟩ := hrel
      obtain ⟨r9, hr9, hr91, hr92⟩ := tmod100 (most - (j : Int))
      have hr9b : -100 ≤ r9 ∧ r9 ≤ 100 := by omega
      have hw9 : IntKind.i64.wrap (r9 + 100) = r9 + 100 := wrapQ _ (by omega) (by omega)
      have hw1 : IntKind.i64.wrap (most - (j : Int) - 1) = most - (j : Int) - 1 := wrapQ _ (by omega) (by omega)
      by_cases hjq : (j : Int) < q
      · have hne := hqn j (by omega) hjq
        have tne : ((most - (j : Int)) % 100 != YY) = true := by rw [bne_iff_ne]; exact hne
        clear hr91 hqn hqe hne
        go_wp2_with fail
        go_round
        case rel => exact ⟨j + 1, by omega, by first | go_num | (congr 1; omega)⟩
        case measure => simp [intOf]; omega
      obtain rfl : (j : Int) = q := by omega
      have tne : ((most - (j : Int)) % 100 != YY) = false := by rw [bne_eq_false_iff_eq]; exact hqe
      have HY2 := Kp.mk (HLA.out)
      clear hr91 hqn hqe HLA
      go_upto_region 20 with fail
      have HD4 := Kp.mk (HD5.out.setY (most - (j : Int)))
      clear e0 g0 HD5
      generalize hW4 : (W5.setCell ⟨w.heap.size + 1, 0, none⟩ (.int .i64 (most - (j : Int)))) = W4 at *
      clear hW4 tne hw1 hr9 hr92 hw9
      generalize hY2 : most - (j : Int) = Y2 at *
      clear hY2
      obtain ⟨BB, th, tm, ts, hTT, hBB⟩ := HTM.out Y2 MM D
      have HTT := Kp.mk hTT
      have HBB := Kp.mk hBB
      clear hTT hBB HTM
      go_cut [15, 16] (fun a b wx => ∃ sh : Nat, a = .pointer (some ⟨sh, 0, none⟩) ∧ b = .bool BB ∧ SH w sh (Y2) (MM) (D) (th) (tm) (ts) wx)
      case first =>
        refine wp_region_held_drew (S := fun w' => w'.cell? ⟨w.heap.size + 1, 0, none⟩ = some (.int .i64 (Y2)) ∧ w'.cell? ⟨w.heap.size + 1, 1, none⟩ = some (.int .i64 (MM)) ∧ w'.cell? ⟨w.heap.size + 1, 2, none⟩ = some (.int .i64 (D)) ∧ w'.cell? ⟨w.heap.size + 1, 3, none⟩ = some (.int .i64 0) ∧ w'.cell? ⟨w.heap.size + 1, 4, none⟩ = some (.int .i64 0) ∧ w'.cell? ⟨w.heap.size + 1, 5, none⟩ = some (.int .i64 0)) (by kernel_rfl) (cells6D HD4.out.box) (fun hHeld => ?_)
        refine wpAnyH_take (i := 0) (oi := ⟨some 125, .move (.tmp 0), _, _, _, none⟩) (v := ?_) rfl (by kernel_rfl) (by kernel_rfl) (by kernel_rfl) (fun _ _ _ h => h) (Or.inl ⟨by rfl, ?_⟩) (by assumption) ?_
        rotate_left
        · intro w hSw
          try dsimp only at hSw
          go_simp
          try with_reducible rfl
        try simp only [Act.put, List.setIfInBounds_toArray, List.set_cons_zero, List.set_cons_succ]
        refine wpAnyH_take (i := 1) (oi := ⟨some 126, .slice 9 (.tmp 125) (some (.const (.int .i64 12))) (some (.const (.int .i64 20))) none, _, _, _, none⟩) (v := ?_) rfl (by kernel_rfl) (by kernel_rfl) (by kernel_rfl) (fun _ _ _ h => h) (Or.inl ⟨by rfl, ?_⟩) (by assumption) ?_
        rotate_left
        · intro w hSw
          try dsimp only at hSw
          go_simp
          try with_reducible rfl
        try simp only [Act.put, List.setIfInBounds_toArray, List.set_cons_zero, List.set_cons_succ]
        refine wpAnyH_take (i := 2) (oi := ⟨some 127, .load 66 (.tmp 9), _, _, _, none⟩) (v := ?_) rfl (by kernel_rfl) (by kernel_rfl) (by kernel_rfl) (fun _ _ _ h => h) (Or.inl ⟨by rfl, ?_⟩) (by assumption) ?_
        rotate_left
        · intro w hSw
          try dsimp only at hSw
          go_simp
          try with_reducible rfl
        try simp only [Act.put, List.setIfInBounds_toArray, List.set_cons_zero, List.set_cons_succ]
        refine wpAnyH_ready (rs := [3, 7]) (by kernel_rfl) (by simp) ?_
        refine AllReadyH.cons (o := ⟨some 128, _, _, _, _, none⟩) rfl (fun K hK => ?_) (AllReadyH.cons (o := ⟨some 15, _, _, _, _, none⟩) rfl (fun K hK => ?_) AllReadyH.nil)
        · go_simp
          (go_at_call 129; refine (HTT.out _).mono ?_; rintro e w5 ⟨rfl, hb⟩)
          have HD5 := Kp.mk (HD4.out.below ((gdrewN _ 1).trans hb))
          clear hb
          try go_wp2_with fail
          refine hK.out _ _ (cells6D HD5.out.box) (fun hHeld2 => ?_)
          clear hK K
          try simp only [Act.put, List.setIfInBounds_toArray, List.set_cons_zero, List.set_cons_succ]
          refine wpAnyH_take (i := 4) (oi := ⟨some 124, .move (.tmp 128), _, _, _, none⟩) (v := ?_) rfl (by kernel_rfl) (by kernel_rfl) (by kernel_rfl) (fun _ _ _ h => h) (Or.inl ⟨by rfl, ?_⟩) (by assumption) ?_
          rotate_left
          · intro w hSw
            try dsimp only at hSw
            go_simp
            try with_reducible rfl
          try simp only [Act.put, List.setIfInBounds_toArray, List.set_cons_zero, List.set_cons_succ]
          refine wpAnyH_take (i := 5) (oi := ⟨some 129, .extract (.tmp 124) 0, _, _, _, none⟩) (v := ?_) rfl (by kernel_rfl) (by kernel_rfl) (by kernel_rfl) (fun _ _ _ h => h) (Or.inl ⟨by rfl, ?_⟩) (by assumption) ?_
          rotate_left
          · intro w hSw
            try dsimp only at hSw
            go_simp
            try with_reducible rfl
          try simp only [Act.put, List.setIfInBounds_toArray, List.set_cons_zero, List.set_cons_succ]
          refine wpAnyH_take (i := 6) (oi := ⟨some 130, .extract (.tmp 124) 1, _, _, _, none⟩) (v := ?_) rfl (by kernel_rfl) (by kernel_rfl) (by kernel_rfl) (fun _ _ _ h => h) (Or.inl ⟨by rfl, ?_⟩) (by assumption) ?_
          rotate_left
          · intro w hSw
            try dsimp only at hSw
            go_simp
            try with_reducible rfl
          try simp only [Act.put, List.setIfInBounds_toArray, List.set_cons_zero, List.set_cons_succ]
          refine wpAnyH_ready (rs := [7]) (by kernel_rfl) (by simp) ?_
          refine AllReadyH.cons (o := ⟨some 15, _, _, _, _, none⟩) rfl (fun K hK => ?_) AllReadyH.nil
          go_simp
          refine hK.out _ _ (cells6D (blk_alloc HD5.out.box)) (fun hHeld2 => ?_)
          clear hK K
          try simp only [Act.put, List.setIfInBounds_toArray, List.set_cons_zero, List.set_cons_succ]
          refine wpAnyH_ready (rs := [8]) (by kernel_rfl) (by simp) ?_
          refine AllReadyH.cons (o := ⟨none, _, _, _, _, none⟩) rfl (fun K hK => ?_) AllReadyH.nil
          go_simp
          refine hK.out _ _ (cells6D (blk_alloc HD5.out.box)) (fun hHeld2 => ?_)
          clear hK K
          try simp only [Act.put, List.setIfInBounds_toArray, List.set_cons_zero, List.set_cons_succ]
          refine wpAnyH_take (i := 9) (oi := ⟨some 16, .assign (.tmp 130), _, _, _, none⟩) (v := ?_) rfl (by kernel_rfl) (by kernel_rfl) (by kernel_rfl) (fun _ _ _ h => h) (Or.inl ⟨by rfl, ?_⟩) (by assumption) ?_
          rotate_left
          · intro w hSw
            try dsimp only at hSw
            go_simp
            try with_reducible rfl
          try simp only [Act.put, List.setIfInBounds_toArray, List.set_cons_zero, List.set_cons_succ]
          refine wpAnyH_done (by kernel_rfl) ?_ _
          go_wp2_with fail
          go_meet
          exact ⟨_, rfl, rfl, SH.new HD5.out (Y2) (MM) (D) (th) (tm) (ts)⟩
        · go_simp
          refine hK.out _ _ (cells6D (blk_alloc HD4.out.box)) (fun hHeld2 => ?_)
          clear hK K
          try simp only [Act.put, List.setIfInBounds_toArray, List.set_cons_zero, List.set_cons_succ]
          have HNB := Kp.mk (show ((W4.drew).alloc (.cells #[.int .i64 0, .int .i64 0, .int .i64 0, .int .i64 0, .int .i64 0, .int .i64 0] 66)).heap[W4.heap.size]? = some (.cells #[.int .i64 0, .int .i64 0, .int .i64 0, .int .i64 0, .int .i64 0, .int .i64 0] 66 (0, 0)) from heap_alloc_new (W4.drew) (.cells #[.int .i64 0, .int .i64 0, .int .i64 0, .int .i64 0, .int .i64 0, .int .i64 0] 66))
          have HD4b := Kp.mk (HD4.out.below (((Below.refl W4.heap.size W4).drew).alloc (Nat.le_refl _) (.cells #[.int .i64 0, .int .i64 0, .int .i64 0, .int .i64 0, .int .i64 0, .int .i64 0] 66)))
          refine wpAnyH_ready (rs := [3]) (by kernel_rfl) (by simp) ?_
          refine AllReadyH.cons (o := ⟨some 128, _, _, _, _, none⟩) rfl (fun K hK => ?_) AllReadyH.nil
          go_simp
          (go_at_call 129; refine (HTT.out _).mono ?_; rintro e w5 ⟨rfl, hb⟩)
          have HD5 := Kp.mk (HD4b.out.below hb)
          have HNC := Kp.mk ((hb.block _ (blk_lt HNB.out)).trans HNB.out)
          have n0 := blk_cell (i := 0) HNC.out rfl
          have o0 := blk_free (i := 0) HNC.out
          have n1 := blk_cell (i := 1) HNC.out rfl
          have o1 := blk_free (i := 1) HNC.out
          have n2 := blk_cell (i := 2) HNC.out rfl
          have o2 := blk_free (i := 2) HNC.out
          have n3 := blk_cell (i := 3) HNC.out rfl
          have o3 := blk_free (i := 3) HNC.out
          have n4 := blk_cell (i := 4) HNC.out rfl
          have o4 := blk_free (i := 4) HNC.out
          have n5 := blk_cell (i := 5) HNC.out rfl
          have o5 := blk_free (i := 5) HNC.out
          clear hb
          try go_wp2_with fail
          refine hK.out _ _ (cells6D HD5.out.box) (fun hHeld2 => ?_)
          clear hK K
          try simp only [Act.put, List.setIfInBounds_toArray, List.set_cons_zero, List.set_cons_succ]
          refine wpAnyH_take (i := 4) (oi := ⟨some 124, .move (.tmp 128), _, _, _, none⟩) (v := ?_) rfl (by kernel_rfl) (by kernel_rfl) (by kernel_rfl) (fun _ _ _ h => h) (Or.inl ⟨by rfl, ?_⟩) (by assumption) ?_
          rotate_left
          · intro w hSw
            try dsimp only at hSw
            go_simp
            try with_reducible rfl
          try simp only [Act.put, List.setIfInBounds_toArray, List.set_cons_zero, List.set_cons_succ]
          refine wpAnyH_take (i := 5) (oi := ⟨some 129, .extract (.tmp 124) 0, _, _, _, none⟩) (v := ?_) rfl (by kernel_rfl) (by kernel_rfl) (by kernel_rfl) (fun _ _ _ h => h) (Or.inl ⟨by rfl, ?_⟩) (by assumption) ?_
          rotate_left
          · intro w hSw
            try dsimp only at hSw
            go_simp
            try with_reducible rfl
          try simp only [Act.put, List.setIfInBounds_toArray, List.set_cons_zero, List.set_cons_succ]
          refine wpAnyH_take (i := 6) (oi := ⟨some 130, .extract (.tmp 124) 1, _, _, _, none⟩) (v := ?_) rfl (by kernel_rfl) (by kernel_rfl) (by kernel_rfl) (fun _ _ _ h => h) (Or.inl ⟨by rfl, ?_⟩) (by assumption) ?_
          rotate_left
          · intro w hSw
            try dsimp only at hSw
            go_simp
            try with_reducible rfl
          try simp only [Act.put, List.setIfInBounds_toArray, List.set_cons_zero, List.set_cons_succ]
          have hshb : w.heap.size < W4.heap.size := Nat.lt_of_succ_lt (blk_lt HD4.out.box)
          refine wpAnyH_ready (rs := [8]) (by kernel_rfl) (by simp) ?_
          refine AllReadyH.cons (o := ⟨none, _, _, _, _, none⟩) rfl (fun K hK => ?_) AllReadyH.nil
          go_simp
          refine hK.out _ _ (cells6D ((SH.two HD5.out HNC.out hshb (by have := blk_lt HD4.out.box; omega) (Y2) (MM) (D) (th) (tm) (ts)).2)) (fun hHeld2 => ?_)
          clear hK K
          try simp only [Act.put, List.setIfInBounds_toArray, List.set_cons_zero, List.set_cons_succ]
          refine wpAnyH_take (i := 9) (oi := ⟨some 16, .assign (.tmp 130), _, _, _, none⟩) (v := ?_) rfl (by kernel_rfl) (by kernel_rfl) (by kernel_rfl) (fun _ _ _ h => h) (Or.inl ⟨by rfl, ?_⟩) (by assumption) ?_
          rotate_left
          · intro w hSw
            try dsimp only at hSw
            go_simp
            try with_reducible rfl
          try simp only [Act.put, List.setIfInBounds_toArray, List.set_cons_zero, List.set_cons_succ]
          refine wpAnyH_done (by kernel_rfl) ?_ _
          go_wp2_with fail
          go_meet
          exact ⟨_, rfl, rfl, SH.set (cs := (_, _, _, _, _, _)) HD5.out hshb HNC.out (Y2) (MM) (D) (th) (tm) (ts)⟩
      case rest =>
        obtain ⟨sh, rfl, rfl, hS⟩ := hcut
        have HS := Kp.mk hS
        clear hS HD4
        rcases HBB.out with ⟨rfl, hT, hH, rfl, rfl, rfl⟩ | ⟨rfl, hb⟩
        rotate_left
        · skip
          have hn := Kp.mk (HNE.out (fun h => hb ⟨(HIF.out.1 h).2.2.2.2.2.1, (HIF.out.1 h).2.2.2.2.2.2⟩))
          clear HNE HPO HBB HTT HIF HY2 HFC
          have x0 := blk_cell (i := 0) HS.out.box rfl
          have r0 := blk_cell (i := 0) HS.out.res rfl
          have f0 := blk_free (i := 0) HS.out.res
          have x1 := blk_cell (i := 1) HS.out.box rfl
          have r1 := blk_cell (i := 1) HS.out.res rfl
          have f1 := blk_free (i := 1) HS.out.res
          have x2 := blk_cell (i := 2) HS.out.box rfl
          have r2 := blk_cell (i := 2) HS.out.res rfl
          have f2 := blk_free (i := 2) HS.out.res
          have x3 := blk_cell (i := 3) HS.out.box rfl
          have r3 := blk_cell (i := 3) HS.out.res rfl
          have f3 := blk_free (i := 3) HS.out.res
          have x4 := blk_cell (i := 4) HS.out.box rfl
          have r4 := blk_cell (i := 4) HS.out.res rfl
          have f4 := blk_free (i := 4) HS.out.res
          have x5 := blk_cell (i := 5) HS.out.box rfl
          have r5 := blk_cell (i := 5) HS.out.res rfl
          have f5 := blk_free (i := 5) HS.out.res
          have RS := HS.out.done Y2 MM D th tm ts
          unfold dSet at RS
          go_wp2_with fail
          have z0 := blk_cell (i := 0) RS.1 rfl
          have z1 := blk_cell (i := 1) RS.1 rfl
          have z2 := blk_cell (i := 2) RS.1 rfl
          have z3 := blk_cell (i := 3) RS.1 rfl
          have z4 := blk_cell (i := 4) RS.1 rfl
          have z5 := blk_cell (i := 5) RS.1 rfl
          exact bodyPost_ret (v := .tuple #[.agg #[.int .i64 Y2, .int .i64 MM, .int .i64 D, .int .i64 th, .int .i64 tm, .int .i64 ts], .int .i64 U, .bool false]) (by simp [results, Tryz.results102, go_sem, z0, z1, z2, z3, z4, z5]) rfl (RetFo.bad hn.out RS.2)
        have hn0 := Kp.mk (show FO = some ⟨[], Y2, MM, D, nmQ ((r.extract 12 20).extract 0 2), nmQ ((r.extract 12 20).extract 3 5), nmQ ((r.extract 12 20).extract 6 (r.extract 12 20).size), U⟩ by rw [HPO.out (HIF.out.2 ⟨by omega, HFC.out, hd, hm, hy, hT, hH⟩), HY2.out]; rfl)
        generalize nmQ ((r.extract 12 20).extract 0 2) = th at *
        generalize nmQ ((r.extract 12 20).extract 3 5) = tm at *
        generalize nmQ ((r.extract 12 20).extract 6 (r.extract 12 20).size) = ts at *
        · skip
          have hn := Kp.mk (hn0.out)
          clear HNE HPO HBB HTT HIF HY2 HFC
          have x0 := blk_cell (i := 0) HS.out.box rfl
          have r0 := blk_cell (i := 0) HS.out.res rfl
          have f0 := blk_free (i := 0) HS.out.res
          have x1 := blk_cell (i := 1) HS.out.box rfl
          have r1 := blk_cell (i := 1) HS.out.res rfl
          have f1 := blk_free (i := 1) HS.out.res
          have x2 := blk_cell (i := 2) HS.out.box rfl
          have r2 := blk_cell (i := 2) HS.out.res rfl
          have f2 := blk_free (i := 2) HS.out.res
          have x3 := blk_cell (i := 3) HS.out.box rfl
          have r3 := blk_cell (i := 3) HS.out.res rfl
          have f3 := blk_free (i := 3) HS.out.res
          have x4 := blk_cell (i := 4) HS.out.box rfl
          have r4 := blk_cell (i := 4) HS.out.res rfl
          have f4 := blk_free (i := 4) HS.out.res
          have x5 := blk_cell (i := 5) HS.out.box rfl
          have r5 := blk_cell (i := 5) HS.out.res rfl
          have f5 := blk_free (i := 5) HS.out.res
          have RS := HS.out.done Y2 MM D th tm ts
          unfold dSet at RS
          go_wp2_with fail
          have z0 := blk_cell (i := 0) RS.1 rfl
          have z1 := blk_cell (i := 1) RS.1 rfl
          have z2 := blk_cell (i := 2) RS.1 rfl
          have z3 := blk_cell (i := 3) RS.1 rfl
          have z4 := blk_cell (i := 4) RS.1 rfl
          have z5 := blk_cell (i := 5) RS.1 rfl
          exact bodyPost_ret (v := .tuple #[.agg #[.int .i64 Y2, .int .i64 MM, .int .i64 D, .int .i64 th, .int .i64 tm, .int .i64 ts], .int .i64 U, .bool true]) (by simp [results, Tryz.results102, go_sem, z0, z1, z2, z3, z4, z5]) rfl (RetFo.good hn.out RS.2)
end Go.Proofs.YtgamekfickheaaaGreat
