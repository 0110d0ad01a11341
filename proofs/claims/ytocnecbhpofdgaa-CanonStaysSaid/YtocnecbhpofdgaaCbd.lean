/- Whether two have the same fields (layer 50): the document's (bin/mkcbd.py). -/
import Derived.Test.YtocnecbhpofdgaaCbc
namespace Go.Proofs.Ytocnecbhpofdgaa
open Go.RowKit
set_option linter.unusedVariables false
set_option linter.unusedSimpArgs false

theorem rSm_no {x y : List Fld} {k : Nat} (h : k < x.length) (hs : sameL (hAll x x[k].1) (hAll y x[k].1) = false) : rSm x y = false := by
  unfold rSm
  rw [Bool.and_eq_false_iff]
  exact .inr (List.all_eq_false.2 ⟨x[k], List.getElem_mem h, by simp [hs]⟩)
set_option maxRecDepth 100000 in
set_option maxHeartbeats 4000000 in
theorem rsame50_any (v1 v2 : Value) (l m : List Fld) (w : World) (h1 : RdF w v1 l) (h2 : RdF w v2 m) (hz1 : ∀ p ∈ l, FldSm p) (hz2 : ∀ p ∈ m, FldSm p) (hl : l.length ≤ 100) (hm : m.length ≤ 100)
    (hs1 : ∀ f ∈ cFld l, f.1.size ≤ 100 ∧ f.2.size ≤ 30200) (hs2 : ∀ f ∈ cFld m, f.1.size ≤ 100 ∧ f.2.size ≤ 30200) :
    Calls Try.prog 27 #[v1, v2] w fun e w' => e = .returned (.bool (rSm (cFld l) (cFld m))) ∧ Below w.heap.size w w' := by
  have H1 := Kp.mk (rfields_c v1 l w h1 hz1 hl)
  have H2 := Kp.mk (fun w2 (hb : Below w.heap.size w w2) => rfields_c v2 m w2 (h2.below hb) hz2 hm)
  have HL := Kp.mk (show (cFld l).length ≤ 100 ∧ (cFld m).length ≤ 100 by have := cFld_len l; have := cFld_len m; omega)
  have HZ1 := Kp.mk (show ∀ p ∈ cFld l, FldSm p from fun p hp => ⟨by have := (hs1 p hp).1; omega, by have := (hs1 p hp).2; omega⟩)
  have HZ2 := Kp.mk (show ∀ p ∈ cFld m, FldSm p from fun p hp => ⟨by have := (hs2 p hp).1; omega, by have := (hs2 p hp).2; omega⟩)
  have HS1 := Kp.mk hs1
  obtain ⟨a1, c1, rfl, -, -, -⟩ := h1
  obtain ⟨a2, c2, rfl, -, -, -⟩ := h2
  clear hz1 hz2 hs1 hs2
  unfold RetF at *
  obtain ⟨r, hr⟩ : ∃ r, r = rSm (cFld l) (cFld m) := ⟨_, rfl⟩
  have HR := Kp.mk hr
  rw [← hr]
  clear hr
  generalize cFld l = X at *
  generalize cFld m = Y at *
  go_enter Try.func27, Try.ntmps27
  go_wp2_with fail
  refine H1.out.mono ?_
  rintro e w1 ⟨u1, rfl, ho1, hb1⟩
  have HO1 := Kp.mk ho1
  have HB1 := Kp.mk hb1
  obtain ⟨b1, d1, rfl⟩ := own_lenH ho1
  clear ho1 hb1
  go_wp2_with fail
  refine (H2.out _ HB1.out).mono ?_
  rintro e w2 ⟨u2, rfl, ho2, hb2⟩
  have HO2 := Kp.mk (own_upC ho2 HB1.out.size)
  have HO3 := Kp.mk (own_bel HO1.out hb2)
  have HB2 := Kp.mk (HB1.out.trans (hb2.mono HB1.out.size))
  obtain ⟨b2, d2, rfl⟩ := own_lenH ho2
  clear ho2 hb2
  obtain ⟨hxl, hyl⟩ := HL.out
  by_cases hne : X.length = Y.length
  case neg =>
    have HRF := Kp.mk (show r = false by rw [HR.out]; unfold rSm; rw [decide_eq_false hne]; rfl)
    have t1 : ((X.length : Int) != (Y.length : Int)) = true := by simp; omega
    go_wp2_with fail
    go_ret
    rw [HRF.out]
    exact ⟨rfl, HB2.out⟩
  have t1 : ((X.length : Int) != (Y.length : Int)) = false := by simp; omega
  have HNE := Kp.mk hne
  clear hne
  have hrX := Kp.mk (rdf_own HO3.out)
  have hrY := Kp.mk (rdf_own HO2.out)
  generalize hnx : X.length = n at *
  have HNX := Kp.mk hnx
  generalize hny : Y.length = ny at *
  have HNY := Kp.mk hny
  clear hnx hny
  go_wp2_with fail
  go_loopw [7] (fun i wr => ∃ k : Nat, k ≤ n ∧ i = .int .i64 k ∧ Below w2.heap.size w2 wr ∧ Kp (∀ j (h : j < X.length), j < k → sameL (hAll X X[j].1) (hAll Y X[j].1) = true)) (fun i _ => n - (intOf i).toNat)
  case atStart => exact ⟨0, Nat.zero_le _, rfl, Below.refl _ _, ⟨fun j _ h => by omega⟩⟩
  case round =>
    obtain ⟨k, hk, rfl, hb, hf⟩ := hrel
    have HBW := Kp.mk hb
    have hszw := hb.size
    by_cases hlt : k < n
    · have hkl : k < X.length := by have := HNX.out; omega
      have hrd : RdF wr (.slice b1 n d1) X := hrX.out.below hb
      have HRX := Kp.mk hrd
      obtain ⟨g, o, rfl, hgl, d⟩ := rdf_cells hrd (by omega)
      obtain ⟨c1, -⟩ := d k hkl
      have HSX := Kp.mk (HS1.out _ (List.getElem_mem hkl))
      have HNO := Kp.mk (fun h => rSm_no (x := X) (y := Y) hkl h)
      have HST := Kp.mk (show sameL (hAll X X[k].1) (hAll Y X[k].1) = true → ∀ j (h : j < X.length), j < k + 1 → sameL (hAll X X[j].1) (hAll Y X[j].1) = true from fun h j hj hjk => by
        rcases Nat.lt_succ_iff_lt_or_eq.1 hjk with hjk | rfl
        · exact hf.out j hj hjk
        · exact h)
      have q1 : (k : Int) < (n : Int) := by omega
      have q0 : (0 : Int) ≤ (k : Int) := by omega
      clear d hrd hb hf
      generalize X[k].1 = x at *
      have HA1 := Kp.mk (fun w5 (hb : Below wr.heap.size wr w5) => rhall_any (.slice (some ⟨g, o, none⟩) n d1) X x w5 (HRX.out.below hb) HZ1.out (by have := HNX.out; omega) (by have := HSX.out.1; omega))
      have HA2 := Kp.mk (fun w5 (hb : Below wr.heap.size wr w5) => rhall_any (.slice b2 ny d2) Y x w5 ((hrY.out.below HBW.out).below hb) HZ2.out (by have := HNY.out; omega) (by have := HSX.out.1; omega))
      have HVL := Kp.mk (show (hAll X x).length ≤ 1000 ∧ (hAll Y x).length ≤ 1000 by have := hAll_len X x; have := hAll_len Y x; have := HNX.out; have := HNY.out; omega)
      unfold RetS at HA1 HA2
      have HD := Kp.mk (gdrewN wr 1)
      generalize hAll X x = VX at *
      generalize hAll Y x = VY at *
      cases hsv : sameL VX VY
      · have HRF := Kp.mk (HR.out.trans (HNO.out hsv))
        rw [hsv] at HNO HST
        have HSV := Kp.mk hsv
        clear hsv
        go_upto_region 7 with fail
        · skip
          refine wp_region_held_drew (S := fun w' => w'.cell? ⟨g, o + k * 2, none⟩ = some (.string x)) (by kernel_rfl) (show _ from c1) (fun hHeld => ?_)
          refine wpAnyH_take (i := 0) (oi := ⟨some 23, .move (.tmp 5), _, _, _, none⟩) (v := ?_) rfl (by kernel_rfl) (by kernel_rfl) (by kernel_rfl) (fun _ _ _ h => h) (Or.inl ⟨by rfl, ?_⟩) (by assumption) ?_
          rotate_left
          · intro w hSw
            try dsimp only at hSw
            go_simp
            try with_reducible rfl
          try simp only [Act.put, List.setIfInBounds_toArray, List.set_cons_zero, List.set_cons_succ]
          refine wpAnyH_take (i := 1) (oi := ⟨some 24, .move (.tmp 5), _, _, _, none⟩) (v := ?_) rfl (by kernel_rfl) (by kernel_rfl) (by kernel_rfl) (fun _ _ _ h => h) (Or.inl ⟨by rfl, ?_⟩) (by assumption) ?_
          rotate_left
          · intro w hSw
            try dsimp only at hSw
            go_simp
            try with_reducible rfl
          try simp only [Act.put, List.setIfInBounds_toArray, List.set_cons_zero, List.set_cons_succ]
          refine wpAnyH_take (i := 2) (oi := ⟨some 25, .move (.tmp 7), _, _, _, none⟩) (v := ?_) rfl (by kernel_rfl) (by kernel_rfl) (by kernel_rfl) (fun _ _ _ h => h) (Or.inl ⟨by rfl, ?_⟩) (by assumption) ?_
          rotate_left
          · intro w hSw
            try dsimp only at hSw
            go_simp
            try with_reducible rfl
          try simp only [Act.put, List.setIfInBounds_toArray, List.set_cons_zero, List.set_cons_succ]
          refine wpAnyH_take (i := 3) (oi := ⟨some 26, .indexAddr 22 (.tmp 24) (.tmp 25), _, _, _, none⟩) (v := ?_) rfl (by kernel_rfl) (by kernel_rfl) (by kernel_rfl) (fun _ _ _ h => h) (Or.inl ⟨by rfl, ?_⟩) (by assumption) ?_
          rotate_left
          · intro w hSw
            try dsimp only at hSw
            go_simp
            try with_reducible rfl
          try simp only [Act.put, List.setIfInBounds_toArray, List.set_cons_zero, List.set_cons_succ]
          refine wpAnyH_take (i := 4) (oi := ⟨some 27, .fieldAddr 64 (.tmp 26) 0, _, _, _, none⟩) (v := ?_) rfl (by kernel_rfl) (by kernel_rfl) (by kernel_rfl) (fun _ _ _ h => h) (Or.inl ⟨by rfl, ?_⟩) (by assumption) ?_
          rotate_left
          · intro w hSw
            try dsimp only at hSw
            go_simp
            try with_reducible rfl
          try simp only [Act.put, List.setIfInBounds_toArray, List.set_cons_zero, List.set_cons_succ]
          refine wpAnyH_take (i := 5) (oi := ⟨some 28, .load 9 (.tmp 27), _, _, _, none⟩) (v := ?_) rfl (by kernel_rfl) (by kernel_rfl) (by kernel_rfl) (fun _ _ _ h => h) (Or.inl ⟨by rfl, ?_⟩) (by assumption) ?_
          rotate_left
          · intro w hSw
            try dsimp only at hSw
            go_simp
            try with_reducible rfl
          try simp only [Act.put, List.setIfInBounds_toArray, List.set_cons_zero, List.set_cons_succ]
          refine wpAnyH_take (i := 7) (oi := ⟨some 30, .move (.tmp 6), _, _, _, none⟩) (v := ?_) rfl (by kernel_rfl) (by kernel_rfl) (by kernel_rfl) (fun _ _ _ h => h) (Or.inl ⟨by rfl, ?_⟩) (by assumption) ?_
          rotate_left
          · intro w hSw
            try dsimp only at hSw
            go_simp
            try with_reducible rfl
          try simp only [Act.put, List.setIfInBounds_toArray, List.set_cons_zero, List.set_cons_succ]
          refine wpAnyH_take (i := 8) (oi := ⟨some 31, .move (.tmp 5), _, _, _, none⟩) (v := ?_) rfl (by kernel_rfl) (by kernel_rfl) (by kernel_rfl) (fun _ _ _ h => h) (Or.inl ⟨by rfl, ?_⟩) (by assumption) ?_
          rotate_left
          · intro w hSw
            try dsimp only at hSw
            go_simp
            try with_reducible rfl
          try simp only [Act.put, List.setIfInBounds_toArray, List.set_cons_zero, List.set_cons_succ]
          refine wpAnyH_take (i := 9) (oi := ⟨some 32, .move (.tmp 7), _, _, _, none⟩) (v := ?_) rfl (by kernel_rfl) (by kernel_rfl) (by kernel_rfl) (fun _ _ _ h => h) (Or.inl ⟨by rfl, ?_⟩) (by assumption) ?_
          rotate_left
          · intro w hSw
            try dsimp only at hSw
            go_simp
            try with_reducible rfl
          try simp only [Act.put, List.setIfInBounds_toArray, List.set_cons_zero, List.set_cons_succ]
          refine wpAnyH_take (i := 10) (oi := ⟨some 33, .indexAddr 22 (.tmp 31) (.tmp 32), _, _, _, none⟩) (v := ?_) rfl (by kernel_rfl) (by kernel_rfl) (by kernel_rfl) (fun _ _ _ h => h) (Or.inl ⟨by rfl, ?_⟩) (by assumption) ?_
          rotate_left
          · intro w hSw
            try dsimp only at hSw
            go_simp
            try with_reducible rfl
          try simp only [Act.put, List.setIfInBounds_toArray, List.set_cons_zero, List.set_cons_succ]
          refine wpAnyH_take (i := 11) (oi := ⟨some 34, .fieldAddr 64 (.tmp 33) 0, _, _, _, none⟩) (v := ?_) rfl (by kernel_rfl) (by kernel_rfl) (by kernel_rfl) (fun _ _ _ h => h) (Or.inl ⟨by rfl, ?_⟩) (by assumption) ?_
          rotate_left
          · intro w hSw
            try dsimp only at hSw
            go_simp
            try with_reducible rfl
          try simp only [Act.put, List.setIfInBounds_toArray, List.set_cons_zero, List.set_cons_succ]
          refine wpAnyH_take (i := 12) (oi := ⟨some 35, .load 9 (.tmp 34), _, _, _, none⟩) (v := ?_) rfl (by kernel_rfl) (by kernel_rfl) (by kernel_rfl) (fun _ _ _ h => h) (Or.inl ⟨by rfl, ?_⟩) (by assumption) ?_
          rotate_left
          · intro w hSw
            try dsimp only at hSw
            go_simp
            try with_reducible rfl
          try simp only [Act.put, List.setIfInBounds_toArray, List.set_cons_zero, List.set_cons_succ]
          refine wpAnyH_ready (rs := [6]) (by kernel_rfl) (by simp) ?_
          refine AllReadyH.cons (o := ⟨some 29, _, _, _, _, none⟩) rfl (fun K hK => ?_) AllReadyH.nil
          go_simp
          (go_at_call 47; refine (HA1.out _ HD.out).mono ?_; rintro e w3 ⟨uw3, rfl, how3, hbw3⟩)
          have HW3 := Kp.mk (HD.out.trans (hbw3.mono HD.out.size))
          have HO3 := Kp.mk how3
          obtain ⟨a3, c3, rfl⟩ := own_lenH how3
          have s3 : w3.cell? ⟨g, o + k * 2, none⟩ = some (.string x) := (HW3.out.cell (p := ⟨g, _, none⟩) hgl).trans c1
          clear how3 hbw3
          try go_wp2_with fail
          refine hK.out _ _ (s3) (fun hHeld2 => ?_)
          clear hK K
          try simp only [Act.put, List.setIfInBounds_toArray, List.set_cons_zero, List.set_cons_succ]
          refine wpAnyH_ready (rs := [13]) (by kernel_rfl) (by simp) ?_
          refine AllReadyH.cons (o := ⟨some 36, _, _, _, _, none⟩) rfl (fun K hK => ?_) AllReadyH.nil
          go_simp
          (go_at_call 47; refine (HA2.out _ HW3.out).mono ?_; rintro e w4 ⟨uw4, rfl, how4, hbw4⟩)
          have HW4 := Kp.mk (HW3.out.trans (hbw4.mono HW3.out.size))
          have HO4 := Kp.mk how4
          have HO34 := Kp.mk (own_bel HO3.out hbw4)
          obtain ⟨a4, c4, rfl⟩ := own_lenH how4
          have s4 : w4.cell? ⟨g, o + k * 2, none⟩ = some (.string x) := (HW4.out.cell (p := ⟨g, _, none⟩) hgl).trans c1
          have HSM := Kp.mk (rssame_any (.slice a3 VX.length c3) (.slice a4 VY.length c4) VX VY w4 (rds_own HO34.out) (rds_own HO4.out) (by have := HVL.out; omega) (by have := HVL.out; omega))
          clear how4 hbw4
          try go_wp2_with fail
          refine hK.out _ _ (s4) (fun hHeld2 => ?_)
          clear hK K
          try simp only [Act.put, List.setIfInBounds_toArray, List.set_cons_zero, List.set_cons_succ]
          refine wpAnyH_ready (rs := [14]) (by kernel_rfl) (by simp) ?_
          refine AllReadyH.cons (o := ⟨some 37, _, _, _, _, none⟩) rfl (fun K hK => ?_) AllReadyH.nil
          go_simp
          (go_at_call 28; refine HSM.out.mono ?_; rintro e w5 ⟨rfl, hb5⟩)
          have HW5 := Kp.mk (HW4.out.trans (hb5.mono HW4.out.size))
          have s5 : w5.cell? ⟨g, o + k * 2, none⟩ = some (.string x) := (HW5.out.cell (p := ⟨g, _, none⟩) hgl).trans c1
          clear hb5
          try go_wp2_with fail
          refine hK.out _ _ (s5) (fun hHeld2 => ?_)
          clear hK K
          try simp only [Act.put, List.setIfInBounds_toArray, List.set_cons_zero, List.set_cons_succ]
          refine wpAnyH_take (i := 15) (oi := ⟨some 38, .unOp .not 4 (.tmp 37), _, _, _, none⟩) (v := ?_) rfl (by kernel_rfl) (by kernel_rfl) (by kernel_rfl) (fun _ _ _ h => h) (Or.inl ⟨by rfl, ?_⟩) (by assumption) ?_
          rotate_left
          · intro w hSw
            try dsimp only at hSw
            go_simp
            try with_reducible rfl
          try simp only [Act.put, List.setIfInBounds_toArray, List.set_cons_zero, List.set_cons_succ]
          refine wpAnyH_done (by kernel_rfl) ?_ _
          rw [HSV.out]
          go_wp2_with fail
          go_ret
          rw [HRF.out]
          exact ⟨rfl, HB2.out.trans ((HBW.out.trans (HW5.out.mono hszw)).mono HB2.out.size)⟩
      · have HST2 := Kp.mk (HST.out hsv)
        have HSV := Kp.mk hsv
        clear hsv
        go_upto_region 7 with fail
        · skip
          refine wp_region_held_drew (S := fun w' => w'.cell? ⟨g, o + k * 2, none⟩ = some (.string x)) (by kernel_rfl) (show _ from c1) (fun hHeld => ?_)
          refine wpAnyH_take (i := 0) (oi := ⟨some 23, .move (.tmp 5), _, _, _, none⟩) (v := ?_) rfl (by kernel_rfl) (by kernel_rfl) (by kernel_rfl) (fun _ _ _ h => h) (Or.inl ⟨by rfl, ?_⟩) (by assumption) ?_
          rotate_left
          · intro w hSw
            try dsimp only at hSw
            go_simp
            try with_reducible rfl
          try simp only [Act.put, List.setIfInBounds_toArray, List.set_cons_zero, List.set_cons_succ]
          refine wpAnyH_take (i := 1) (oi := ⟨some 24, .move (.tmp 5), _, _, _, none⟩) (v := ?_) rfl (by kernel_rfl) (by kernel_rfl) (by kernel_rfl) (fun _ _ _ h => h) (Or.inl ⟨by rfl, ?_⟩) (by assumption) ?_
          rotate_left
          · intro w hSw
            try dsimp only at hSw
            go_simp
            try with_reducible rfl
          try simp only [Act.put, List.setIfInBounds_toArray, List.set_cons_zero, List.set_cons_succ]
          refine wpAnyH_take (i := 2) (oi := ⟨some 25, .move (.tmp 7), _, _, _, none⟩) (v := ?_) rfl (by kernel_rfl) (by kernel_rfl) (by kernel_rfl) (fun _ _ _ h => h) (Or.inl ⟨by rfl, ?_⟩) (by assumption) ?_
          rotate_left
          · intro w hSw
            try dsimp only at hSw
            go_simp
            try with_reducible rfl
          try simp only [Act.put, List.setIfInBounds_toArray, List.set_cons_zero, List.set_cons_succ]
          refine wpAnyH_take (i := 3) (oi := ⟨some 26, .indexAddr 22 (.tmp 24) (.tmp 25), _, _, _, none⟩) (v := ?_) rfl (by kernel_rfl) (by kernel_rfl) (by kernel_rfl) (fun _ _ _ h => h) (Or.inl ⟨by rfl, ?_⟩) (by assumption) ?_
          rotate_left
          · intro w hSw
            try dsimp only at hSw
            go_simp
            try with_reducible rfl
          try simp only [Act.put, List.setIfInBounds_toArray, List.set_cons_zero, List.set_cons_succ]
          refine wpAnyH_take (i := 4) (oi := ⟨some 27, .fieldAddr 64 (.tmp 26) 0, _, _, _, none⟩) (v := ?_) rfl (by kernel_rfl) (by kernel_rfl) (by kernel_rfl) (fun _ _ _ h => h) (Or.inl ⟨by rfl, ?_⟩) (by assumption) ?_
          rotate_left
          · intro w hSw
            try dsimp only at hSw
            go_simp
            try with_reducible rfl
          try simp only [Act.put, List.setIfInBounds_toArray, List.set_cons_zero, List.set_cons_succ]
          refine wpAnyH_take (i := 5) (oi := ⟨some 28, .load 9 (.tmp 27), _, _, _, none⟩) (v := ?_) rfl (by kernel_rfl) (by kernel_rfl) (by kernel_rfl) (fun _ _ _ h => h) (Or.inl ⟨by rfl, ?_⟩) (by assumption) ?_
          rotate_left
          · intro w hSw
            try dsimp only at hSw
            go_simp
            try with_reducible rfl
          try simp only [Act.put, List.setIfInBounds_toArray, List.set_cons_zero, List.set_cons_succ]
          refine wpAnyH_take (i := 7) (oi := ⟨some 30, .move (.tmp 6), _, _, _, none⟩) (v := ?_) rfl (by kernel_rfl) (by kernel_rfl) (by kernel_rfl) (fun _ _ _ h => h) (Or.inl ⟨by rfl, ?_⟩) (by assumption) ?_
          rotate_left
          · intro w hSw
            try dsimp only at hSw
            go_simp
            try with_reducible rfl
          try simp only [Act.put, List.setIfInBounds_toArray, List.set_cons_zero, List.set_cons_succ]
          refine wpAnyH_take (i := 8) (oi := ⟨some 31, .move (.tmp 5), _, _, _, none⟩) (v := ?_) rfl (by kernel_rfl) (by kernel_rfl) (by kernel_rfl) (fun _ _ _ h => h) (Or.inl ⟨by rfl, ?_⟩) (by assumption) ?_
          rotate_left
          · intro w hSw
            try dsimp only at hSw
            go_simp
            try with_reducible rfl
          try simp only [Act.put, List.setIfInBounds_toArray, List.set_cons_zero, List.set_cons_succ]
          refine wpAnyH_take (i := 9) (oi := ⟨some 32, .move (.tmp 7), _, _, _, none⟩) (v := ?_) rfl (by kernel_rfl) (by kernel_rfl) (by kernel_rfl) (fun _ _ _ h => h) (Or.inl ⟨by rfl, ?_⟩) (by assumption) ?_
          rotate_left
          · intro w hSw
            try dsimp only at hSw
            go_simp
            try with_reducible rfl
          try simp only [Act.put, List.setIfInBounds_toArray, List.set_cons_zero, List.set_cons_succ]
          refine wpAnyH_take (i := 10) (oi := ⟨some 33, .indexAddr 22 (.tmp 31) (.tmp 32), _, _, _, none⟩) (v := ?_) rfl (by kernel_rfl) (by kernel_rfl) (by kernel_rfl) (fun _ _ _ h => h) (Or.inl ⟨by rfl, ?_⟩) (by assumption) ?_
          rotate_left
          · intro w hSw
            try dsimp only at hSw
            go_simp
            try with_reducible rfl
          try simp only [Act.put, List.setIfInBounds_toArray, List.set_cons_zero, List.set_cons_succ]
          refine wpAnyH_take (i := 11) (oi := ⟨some 34, .fieldAddr 64 (.tmp 33) 0, _, _, _, none⟩) (v := ?_) rfl (by kernel_rfl) (by kernel_rfl) (by kernel_rfl) (fun _ _ _ h => h) (Or.inl ⟨by rfl, ?_⟩) (by assumption) ?_
          rotate_left
          · intro w hSw
            try dsimp only at hSw
            go_simp
            try with_reducible rfl
          try simp only [Act.put, List.setIfInBounds_toArray, List.set_cons_zero, List.set_cons_succ]
          refine wpAnyH_take (i := 12) (oi := ⟨some 35, .load 9 (.tmp 34), _, _, _, none⟩) (v := ?_) rfl (by kernel_rfl) (by kernel_rfl) (by kernel_rfl) (fun _ _ _ h => h) (Or.inl ⟨by rfl, ?_⟩) (by assumption) ?_
          rotate_left
          · intro w hSw
            try dsimp only at hSw
            go_simp
            try with_reducible rfl
          try simp only [Act.put, List.setIfInBounds_toArray, List.set_cons_zero, List.set_cons_succ]
          refine wpAnyH_ready (rs := [6]) (by kernel_rfl) (by simp) ?_
          refine AllReadyH.cons (o := ⟨some 29, _, _, _, _, none⟩) rfl (fun K hK => ?_) AllReadyH.nil
          go_simp
          (go_at_call 47; refine (HA1.out _ HD.out).mono ?_; rintro e w3 ⟨uw3, rfl, how3, hbw3⟩)
          have HW3 := Kp.mk (HD.out.trans (hbw3.mono HD.out.size))
          have HO3 := Kp.mk how3
          obtain ⟨a3, c3, rfl⟩ := own_lenH how3
          have s3 : w3.cell? ⟨g, o + k * 2, none⟩ = some (.string x) := (HW3.out.cell (p := ⟨g, _, none⟩) hgl).trans c1
          clear how3 hbw3
          try go_wp2_with fail
          refine hK.out _ _ (s3) (fun hHeld2 => ?_)
          clear hK K
          try simp only [Act.put, List.setIfInBounds_toArray, List.set_cons_zero, List.set_cons_succ]
          refine wpAnyH_ready (rs := [13]) (by kernel_rfl) (by simp) ?_
          refine AllReadyH.cons (o := ⟨some 36, _, _, _, _, none⟩) rfl (fun K hK => ?_) AllReadyH.nil
          go_simp
          (go_at_call 47; refine (HA2.out _ HW3.out).mono ?_; rintro e w4 ⟨uw4, rfl, how4, hbw4⟩)
          have HW4 := Kp.mk (HW3.out.trans (hbw4.mono HW3.out.size))
          have HO4 := Kp.mk how4
          have HO34 := Kp.mk (own_bel HO3.out hbw4)
          obtain ⟨a4, c4, rfl⟩ := own_lenH how4
          have s4 : w4.cell? ⟨g, o + k * 2, none⟩ = some (.string x) := (HW4.out.cell (p := ⟨g, _, none⟩) hgl).trans c1
          have HSM := Kp.mk (rssame_any (.slice a3 VX.length c3) (.slice a4 VY.length c4) VX VY w4 (rds_own HO34.out) (rds_own HO4.out) (by have := HVL.out; omega) (by have := HVL.out; omega))
          clear how4 hbw4
          try go_wp2_with fail
          refine hK.out _ _ (s4) (fun hHeld2 => ?_)
          clear hK K
          try simp only [Act.put, List.setIfInBounds_toArray, List.set_cons_zero, List.set_cons_succ]
          refine wpAnyH_ready (rs := [14]) (by kernel_rfl) (by simp) ?_
          refine AllReadyH.cons (o := ⟨some 37, _, _, _, _, none⟩) rfl (fun K hK => ?_) AllReadyH.nil
          go_simp
          (go_at_call 28; refine HSM.out.mono ?_; rintro e w5 ⟨rfl, hb5⟩)
          have HW5 := Kp.mk (HW4.out.trans (hb5.mono HW4.out.size))
          have s5 : w5.cell? ⟨g, o + k * 2, none⟩ = some (.string x) := (HW5.out.cell (p := ⟨g, _, none⟩) hgl).trans c1
          clear hb5
          try go_wp2_with fail
          refine hK.out _ _ (s5) (fun hHeld2 => ?_)
          clear hK K
          try simp only [Act.put, List.setIfInBounds_toArray, List.set_cons_zero, List.set_cons_succ]
          refine wpAnyH_take (i := 15) (oi := ⟨some 38, .unOp .not 4 (.tmp 37), _, _, _, none⟩) (v := ?_) rfl (by kernel_rfl) (by kernel_rfl) (by kernel_rfl) (fun _ _ _ h => h) (Or.inl ⟨by rfl, ?_⟩) (by assumption) ?_
          rotate_left
          · intro w hSw
            try dsimp only at hSw
            go_simp
            try with_reducible rfl
          try simp only [Act.put, List.setIfInBounds_toArray, List.set_cons_zero, List.set_cons_succ]
          refine wpAnyH_done (by kernel_rfl) ?_ _
          rw [HSV.out]
          go_wp2_with fail
          go_roundw
          case rel => exact ⟨k + 1, by omega, by go_num, HBW.out.trans (HW5.out.mono hszw), HST2⟩
          case measure => simp [intOf] <;> omega
    · have hkn : k = n := by omega
      subst hkn
      have HRT := Kp.mk (show r = true by
        rw [HR.out]
        unfold rSm
        rw [decide_eq_true (by rw [HNX.out, HNY.out]; exact HNE.out), Bool.true_and, List.all_eq_true]
        intro p hp
        obtain ⟨j, hj, rfl⟩ := List.getElem_of_mem hp
        exact hf.out j hj (by have := HNX.out; omega))
      clear hb hf
      go_wp2_with fail
      go_ret
      rw [HRT.out]
      exact ⟨rfl, HB2.out.trans (HBW.out.mono HB2.out.size)⟩
end Go.Proofs.Ytocnecbhpofdgaa
