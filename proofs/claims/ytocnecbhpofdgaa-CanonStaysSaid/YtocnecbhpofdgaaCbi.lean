/- CanonStays (layer 50): the law (bin/mkcbi.py). -/
import Derived.Test.YtocnecbhpofdgaaCbh
namespace Go.Proofs.Ytocnecbhpofdgaa
open Go.RowKit
set_option linter.unusedVariables false
set_option linter.unusedSimpArgs false

set_option maxRecDepth 100000 in
set_option maxHeartbeats 4000000 in
theorem cstays_walk (v0 : Value) (l : List Fld) (i : Int) (v : ByteArray) (w : World) (h0 : RdF w v0 l) (hz : ∀ p ∈ l, FldOk p) (hv : v.size ≤ maxLen) :
    Calls Try.prog 7 #[v0, .int .i64 i, .string v] w fun e w' => e = .returned (.bool true) ∧ Below w.heap.size w w' := by
  have H := Kp.mk h0
  have FW := Kp.mk (few10_any v0 l w h0 hz)
  obtain ⟨a0, c0, rfl, hlc, hcm, -⟩ := h0
  clear hz
  have HO := Kp.mk (fun h => And.intro (hFew_out (l := l) h) (hFew_vals h))
  unfold maxLen at hcm hv
  have hll : l.length ≤ 9223372036854775807 := by omega
  go_enter Try.func7, Try.ntmps7
  go_wp2_with fail
  refine FW.out.mono ?_
  rintro e w1 ⟨rfl, hb⟩
  have HB := Kp.mk hb
  clear hb
  generalize hFew l = f1 at *
  cases f1
  · clear HO H FW
    go_wp2_with fail
    refine (lives50_any _).mono ?_
    rintro e wz ⟨rfl, hbz⟩
    go_wp2_with fail
    go_ret
    exact ⟨rfl, HB.out.trans (hbz.mono HB.out.size)⟩
  obtain ⟨⟨hl1, hs1⟩, hv1⟩ := HO.out (by first | rfl | trivial)
  clear HO FW
  by_cases hvs : 300 < v.size
  · have hvi : (300 : Int) < (v.size : Int) := by omega
    clear H hs1 hv1
    go_wp2_with fail
    refine (lives50_any _).mono ?_
    rintro e wz ⟨rfl, hbz⟩
    go_wp2_with fail
    go_ret
    exact ⟨rfl, HB.out.trans (hbz.mono HB.out.size)⟩
  have hvi : ¬ (300 : Int) < (v.size : Int) := by omega
  have hc1 := cFld_small (l := l) (by omega) hv1
  have hn1 := cFld_len l
  have hsF : ∀ p ∈ cFld l, FldSm p := fun p hp => ⟨by have := (hc1 p hp).1; omega, by have := (hc1 p hp).2; omega⟩
  have CF := Kp.mk (fun w5 (hb : Below w.heap.size w w5) => cfields_any (.slice a0 l.length c0) l w5 (H.out.below hb) hs1 (by omega))
  have CF2 := Kp.mk (fun (v5 : Value) (w5 : World) (h5 : RdF w5 v5 (cFld l)) => cfields_any v5 (cFld l) w5 h5 hsF (by omega))
  rw [cFld_cFld] at CF2
  have CS := Kp.mk (fun (m : List Fld) (v5 : Value) (w5 : World) (hb : Below w.heap.size w w5) (h5 : RdF w5 v5 m) hsm hml => csame_any (.slice a0 l.length c0) v5 l m w5 (H.out.below hb) h5 hs1 hsm (by omega) hml)
  have S1 := Kp.mk (fun (v5 : Value) (w5 : World) (hb : Below w.heap.size w w5) (h5 : RdF w5 v5 (cFld l)) => csame_any (.slice a0 l.length c0) v5 l (cFld l) w5 (H.out.below hb) h5 hs1 hsF (by omega) (by omega))
  have S2 := Kp.mk (fun (v5 : Value) (w5 : World) (hb : Below w.heap.size w w5) (h5 : RdF w5 v5 (cFld l)) => csame_any v5 (.slice a0 l.length c0) (cFld l) l w5 h5 (H.out.below hb) hsF hs1 (by omega) (by omega))
  rw [(cSr_stay l).1] at S1
  rw [(cSr_stay l).2] at S2
  have HNF := Kp.mk (show (cFld l).length ≤ 40 by omega)
  clear hc1 hn1 hsF
  generalize cFld l = F at *
  unfold RetF at CF CF2
  go_wp2_with fail
  refine (CF.out _ HB.out).mono ?_
  rintro e w2 ⟨u2, rfl, ho, hb⟩
  replace HB := Kp.mk (HB.out.trans (hb.mono HB.out.size))
  obtain ⟨a2, c2, rfl⟩ := own_lenH ho
  have HF := Kp.mk (rdf_own ho)
  clear hb ho CF
  go_wp2_with fail
  refine (CF2.out _ _ HF.out).mono ?_
  rintro e w3 ⟨u3, rfl, ho, hb⟩
  replace HB := Kp.mk (HB.out.trans (hb.mono HB.out.size))
  replace HF := Kp.mk (HF.out.below hb)
  obtain ⟨a3, c3, rfl⟩ := own_lenH ho
  have SM := Kp.mk (rfsame_any (.slice a3 F.length c3) (.slice a2 F.length c2) F F w3 (rdf_own ho) HF.out (by have := HNF.out; omega) (by have := HNF.out; omega))
  rw [sameL_self] at SM
  clear hb ho CF2
  go_wp2_with fail
  refine SM.out.mono ?_
  rintro e w4 ⟨rfl, hb⟩
  replace HB := Kp.mk (HB.out.trans (hb.mono HB.out.size))
  replace HF := Kp.mk (HF.out.below hb)
  clear hb SM
  go_wp2_with fail
  refine (S1.out _ _ HB.out HF.out).mono ?_
  rintro e w5 ⟨rfl, hb⟩
  replace HB := Kp.mk (HB.out.trans (hb.mono HB.out.size))
  replace HF := Kp.mk (HF.out.below hb)
  clear hb S1
  go_wp2_with fail
  refine (S2.out _ _ HB.out HF.out).mono ?_
  rintro e w6 ⟨rfl, hb⟩
  replace HB := Kp.mk (HB.out.trans (hb.mono HB.out.size))
  clear hb S2 HF
  have hw1 : IntKind.i64.wrap ((l.length : Int) - 1) = (l.length : Int) - 1 := wrap_idB (by omega) (by omega)
  by_cases hin : i < 0
  · clear H hs1 hv1 CS
    go_wp2_with fail
    refine (lives50_any _).mono ?_
    rintro e wz ⟨rfl, hbz⟩
    go_wp2_with fail
    go_ret
    exact ⟨rfl, HB.out.trans (hbz.mono HB.out.size)⟩
  by_cases hup : (l.length : Int) - 1 ≤ i
  · clear H hs1 hv1 CS
    go_wp2_with fail
    refine (lives50_any _).mono ?_
    rintro e wz ⟨rfl, hbz⟩
    go_wp2_with fail
    go_ret
    exact ⟨rfl, HB.out.trans (hbz.mono HB.out.size)⟩
  obtain ⟨k, rfl⟩ : ∃ k : Nat, i = (k : Int) := ⟨i.toNat, by omega⟩
  have hk : k + 1 < l.length := by omega
  obtain ⟨a, c, L2, T1, T2, ga, gc, sa, sc, e2, r2, z2, q2, e3, r3, z3, e4, r4, z4, q4⟩ := stay_facts (v := v) hk hv1 (by omega) hl1
  obtain ⟨b, o, hbo, hbl, -⟩ := rdf_cells H.out (by omega)
  subst hbo
  have HC := Kp.mk (fun (X : World) (hb : Below w.heap.size w X) => rdf_allC (H.out.below hb))
  have HC8 := Kp.mk (fun (X : World) (hb : Below w.heap.size w X) => show (X.cell? ⟨b, o + k * 2, none⟩ = some (.string a.1) ∧ X.cell? ⟨b, o + k * 2 + 1, none⟩ = some (.string a.2)) ∧ X.cell? ⟨b, o + (k + 1) * 2, none⟩ = some (.string c.1) ∧ X.cell? ⟨b, o + (k + 1) * 2 + 1, none⟩ = some (.string c.2) from
    ⟨⟨HC.out X hb _ _ (fvH_two ga).1, HC.out X hb _ _ (fvH_two ga).2⟩, HC.out X hb _ _ (fvH_two gc).1, HC.out X hb _ _ (fvH_two gc).2⟩)
  have HC4 := Kp.mk (fun (X : World) (hb : Below w.heap.size w X) => And.intro (HC8.out X hb).1.1 (HC8.out X hb).2.1)
  have CS2 := Kp.mk (fun (v5 : Value) (w5 : World) (hb : Below w.heap.size w w5) (h5 : RdF w5 v5 L2) => CS.out L2 v5 w5 hb h5 z2 (by omega))
  have HSM := Kp.mk (And.intro sa sc)
  have HE2 := Kp.mk (And.intro e2 (And.intro r2 q2))
  have HE3 := Kp.mk (And.intro e3 r3)
  have HE4 := Kp.mk (And.intro e4 r4)
  have HZ := Kp.mk (And.intro z3 (And.intro z4 q4))
  have CS3 := Kp.mk (fun (v5 v6 : Value) (w5 : World) (h5 : RdF w5 v5 T1) (h6 : RdF w5 v6 T2) => csame_any v5 v6 T1 T2 w5 h5 h6 z3 z4 (by omega) (by omega))
  clear sa sc e2 r2 z2 q2 e3 r3 z3 e4 r4 z4 q4 CS hs1 hv1
  have hwk : IntKind.i64.wrap ((k : Int) + 1) = (k : Int) + 1 := wrap_idB (by omega) (by omega)
  have i0 : (0 : Int) ≤ (k : Int) := by omega
  have i1 : (k : Int) < (l.length : Int) := by omega
  have i2 : (0 : Int) ≤ (k : Int) + 1 := by omega
  have i3 : (k : Int) + 1 < (l.length : Int) := by omega
  have i4 : ((k : Int) + 1).toNat = k + 1 := by omega
  go_upto_region 8 with fail
  have HLT := Kp.mk (litFC w6 (B := w.heap.size) HB.out.size)
  have HBA := Kp.mk (HB.out.alloc HB.out.size (.cells #[] 64))
  have HHA := Kp.mk (H.out.below HBA.out)
  have hsza := HBA.out.size
  have hlen0 : (0 + l.length) * 32 ≤ 140737488355328 := by omega
  have hmx0 : 0 + l.length ≤ maxLen := by unfold maxLen; omega
  go_upto_region 9 with (at_builtin; refine app_flds rfl _ _ _ _ rfl Try.underlying22 _ Try.infoFH rfl w.heap.size _ 0 _ rfl HLT.out _ rfl l HHA.out hlen0 hmx0 hsza ?_; intro v8 w8 h1 h2; rw [Nat.zero_add, List.nil_append] at h1; have HB8 := Kp.mk (HBA.out.grown h2 hsza fun k hk => (HLT.out.lt k hk).1); have HO8 := Kp.mk h1; have hsz8 := HB8.out.size; obtain ⟨a8, c8, rfl⟩ := own_lenH h1; clear h1 h2)
  obtain ⟨g, rfl⟩ := own_formC HO8.out (by omega)
  obtain ⟨hBg, hgl, hgc, hfz⟩ := own_freeC HO8.out
  obtain ⟨⟨d1, d2⟩, d3, d4⟩ := HC8.out w8 HB8.out
  have f1 := hfz (k * 2)
  have f2 := hfz (k * 2 + 1)
  have f3 := hfz ((k + 1) * 2)
  have f4 := hfz ((k + 1) * 2 + 1)
  have u1 := own_cellC HO8.out (fvH_two ga).1
  have u2 := own_cellC HO8.out (fvH_two ga).2
  have u3 := own_cellC HO8.out (fvH_two gc).1
  have u4 := own_cellC HO8.out (fvH_two gc).2
  have hgb : ¬ g = b := by omega
  have hgb2 : ¬ b = g := by omega
  have n1 : ¬ (k + 1) * 2 = k * 2 := by omega
  have n2 : ¬ (k + 1) * 2 = k * 2 + 1 := by omega
  have n3 : ¬ (k + 1) * 2 + 1 = k * 2 := by omega
  have n4 : ¬ (k + 1) * 2 + 1 = k * 2 + 1 := by omega
  have n5 : ¬ k * 2 + 1 = (k + 1) * 2 := by omega
  clear hfz HLT HBA HHA hsza hlen0 hmx0
  go_upto_region 11 with fail
  have HBW := Kp.mk ((((HB8.out.setCell (p := ⟨g, k * 2, none⟩) hBg (.string c.1)).setCell (p := ⟨g, k * 2 + 1, none⟩) hBg (.string c.2)).setCell (p := ⟨g, (k + 1) * 2, none⟩) hBg (.string a.1)).setCell (p := ⟨g, (k + 1) * 2 + 1, none⟩) hBg (.string a.2))
  have h9 := own_storeC (k := (k + 1) * 2 + 1) (u := .string a.2) (own_storeC (k := (k + 1) * 2) (u := .string a.1) (own_storeC (k := k * 2 + 1) (u := .string c.2) (own_storeC (k := k * 2) (u := .string c.1) HO8.out)))
  rw [HE2.out.1] at h9
  have HR2 := Kp.mk (rdf_own (l := L2) (by rw [HE2.out.2.1]; exact h9))
  clear h9 d1 d2 d3 d4 f1 f2 f3 f4 u1 u2 u3 u4 n1 n2 n3 n4 n5 hgb hgb2 hgl hgc
  generalize ((((w8.setCell ⟨g, k * 2, none⟩ (.string c.1)).setCell ⟨g, k * 2 + 1, none⟩ (.string c.2)).setCell ⟨g, (k + 1) * 2, none⟩ (.string a.1)).setCell ⟨g, (k + 1) * 2 + 1, none⟩ (.string a.2)) = W4 at *
  clear HB8 HO8 hsz8 HB
  have HB := Kp.mk (HBW.out.trans ((gdrew1 W4).mono HBW.out.size))
  replace HR2 := Kp.mk (HR2.out.below (gdrew1 W4))
  clear HBW
  have HFO := Kp.mk (fun w5 => oct_fold_any a.1 c.1 w5 (by have := HSM.out.1.1; omega) (by have := HSM.out.2.1; omega))
  have HTR := Kp.mk HE2.out.2.2
  have HK6 := Kp.mk (HC4.out _ HB.out)
  go_cut [86] (fun x wx => x = .bool false ∧ Below w.heap.size w wx)
  case first =>
    cases hfo : foldB a.1 c.1
    all_goals (rw [hfo] at HFO HTR)
    · have hq := HTR.out rfl
      have HSA := Kp.mk (fun (w5 : World) (hb : Below w.heap.size w w5) (h5 : RdF w5 (.slice (some ⟨g, 0, none⟩) l.length c8) L2) => CS2.out _ w5 hb h5)
      rw [hq] at HSA
      clear hq hfo HTR
      refine wp_region_held_drew (S := fun w' => w'.cell? ⟨b, o + k * 2, none⟩ = some (.string a.1) ∧ w'.cell? ⟨b, o + (k + 1) * 2, none⟩ = some (.string c.1)) (by kernel_rfl) (HC4.out _ HB.out) (fun hHeld => ?_)
      refine wpAnyH_take (i := 0) (oi := ⟨some 68, .move (.tmp 0), _, _, _, none⟩) (v := ?_) rfl (by kernel_rfl) (by kernel_rfl) (by kernel_rfl) (fun _ _ _ h => h) (Or.inl ⟨by rfl, ?_⟩) (by assumption) ?_
      rotate_left
      · intro w hSw
        try dsimp only at hSw
        go_simp
        try with_reducible rfl
      try simp only [Act.put, List.setIfInBounds_toArray, List.set_cons_zero, List.set_cons_succ]
      refine wpAnyH_take (i := 1) (oi := ⟨some 69, .move (.tmp 1), _, _, _, none⟩) (v := ?_) rfl (by kernel_rfl) (by kernel_rfl) (by kernel_rfl) (fun _ _ _ h => h) (Or.inl ⟨by rfl, ?_⟩) (by assumption) ?_
      rotate_left
      · intro w hSw
        try dsimp only at hSw
        go_simp
        try with_reducible rfl
      try simp only [Act.put, List.setIfInBounds_toArray, List.set_cons_zero, List.set_cons_succ]
      refine wpAnyH_take (i := 2) (oi := ⟨some 70, .indexAddr 22 (.tmp 68) (.tmp 69), _, _, _, none⟩) (v := ?_) rfl (by kernel_rfl) (by kernel_rfl) (by kernel_rfl) (fun _ _ _ h => h) (Or.inl ⟨by rfl, ?_⟩) (by assumption) ?_
      rotate_left
      · intro w hSw
        try dsimp only at hSw
        go_simp
        try with_reducible rfl
      try simp only [Act.put, List.setIfInBounds_toArray, List.set_cons_zero, List.set_cons_succ]
      refine wpAnyH_take (i := 3) (oi := ⟨some 71, .fieldAddr 64 (.tmp 70) 0, _, _, _, none⟩) (v := ?_) rfl (by kernel_rfl) (by kernel_rfl) (by kernel_rfl) (fun _ _ _ h => h) (Or.inl ⟨by rfl, ?_⟩) (by assumption) ?_
      rotate_left
      · intro w hSw
        try dsimp only at hSw
        go_simp
        try with_reducible rfl
      try simp only [Act.put, List.setIfInBounds_toArray, List.set_cons_zero, List.set_cons_succ]
      refine wpAnyH_take (i := 4) (oi := ⟨some 72, .load 9 (.tmp 71), _, _, _, none⟩) (v := ?_) rfl (by kernel_rfl) (by kernel_rfl) (by kernel_rfl) (fun _ _ _ h => h) (Or.inl ⟨by rfl, ?_⟩) (by assumption) ?_
      rotate_left
      · intro w hSw
        try dsimp only at hSw
        go_simp
        try with_reducible rfl
      try simp only [Act.put, List.setIfInBounds_toArray, List.set_cons_zero, List.set_cons_succ]
      refine wpAnyH_take (i := 5) (oi := ⟨some 73, .move (.tmp 0), _, _, _, none⟩) (v := ?_) rfl (by kernel_rfl) (by kernel_rfl) (by kernel_rfl) (fun _ _ _ h => h) (Or.inl ⟨by rfl, ?_⟩) (by assumption) ?_
      rotate_left
      · intro w hSw
        try dsimp only at hSw
        go_simp
        try with_reducible rfl
      try simp only [Act.put, List.setIfInBounds_toArray, List.set_cons_zero, List.set_cons_succ]
      refine wpAnyH_take (i := 6) (oi := ⟨some 74, .move (.tmp 1), _, _, _, none⟩) (v := ?_) rfl (by kernel_rfl) (by kernel_rfl) (by kernel_rfl) (fun _ _ _ h => h) (Or.inl ⟨by rfl, ?_⟩) (by assumption) ?_
      rotate_left
      · intro w hSw
        try dsimp only at hSw
        go_simp
        try with_reducible rfl
      try simp only [Act.put, List.setIfInBounds_toArray, List.set_cons_zero, List.set_cons_succ]
      refine wpAnyH_take (i := 7) (oi := ⟨some 75, .binOp .add 3 (.tmp 74) (.const (.int .i64 1)) 3, _, _, _, none⟩) (v := ?_) rfl (by kernel_rfl) (by kernel_rfl) (by kernel_rfl) (fun _ _ _ h => h) (Or.inl ⟨by rfl, ?_⟩) (by assumption) ?_
      rotate_left
      · intro w hSw
        try dsimp only at hSw
        go_simp
        try with_reducible rfl
      try simp only [Act.put, List.setIfInBounds_toArray, List.set_cons_zero, List.set_cons_succ]
      refine wpAnyH_take (i := 8) (oi := ⟨some 76, .indexAddr 22 (.tmp 73) (.tmp 75), _, _, _, none⟩) (v := ?_) rfl (by kernel_rfl) (by kernel_rfl) (by kernel_rfl) (fun _ _ _ h => h) (Or.inl ⟨by rfl, ?_⟩) (by assumption) ?_
      rotate_left
      · intro w hSw
        try dsimp only at hSw
        go_simp
        try with_reducible rfl
      try simp only [Act.put, List.setIfInBounds_toArray, List.set_cons_zero, List.set_cons_succ]
      refine wpAnyH_take (i := 9) (oi := ⟨some 77, .fieldAddr 64 (.tmp 76) 0, _, _, _, none⟩) (v := ?_) rfl (by kernel_rfl) (by kernel_rfl) (by kernel_rfl) (fun _ _ _ h => h) (Or.inl ⟨by rfl, ?_⟩) (by assumption) ?_
      rotate_left
      · intro w hSw
        try dsimp only at hSw
        go_simp
        try with_reducible rfl
      try simp only [Act.put, List.setIfInBounds_toArray, List.set_cons_zero, List.set_cons_succ]
      refine wpAnyH_take (i := 10) (oi := ⟨some 78, .load 9 (.tmp 77), _, _, _, none⟩) (v := ?_) rfl (by kernel_rfl) (by kernel_rfl) (by kernel_rfl) (fun _ _ _ h => h) (Or.inl ⟨by rfl, ?_⟩) (by assumption) ?_
      rotate_left
      · intro w hSw
        try dsimp only at hSw
        go_simp
        try with_reducible rfl
      try simp only [Act.put, List.setIfInBounds_toArray, List.set_cons_zero, List.set_cons_succ]
      refine wpAnyH_ready (rs := [11]) (by kernel_rfl) (by simp) ?_
      refine AllReadyH.cons (o := ⟨some 79, _, _, _, _, none⟩) rfl (fun K hK => ?_) AllReadyH.nil
      go_simp
      (go_at_call 31; refine (HFO.out _).mono ?_; rintro e wq ⟨rfl, hb⟩)
      replace HB := Kp.mk (HB.out.trans (hb.mono HB.out.size))
      replace HR2 := Kp.mk (HR2.out.below hb)
      replace HK6 := Kp.mk (HC4.out _ HB.out)
      clear hb
      try go_wp2_with fail
      refine hK.out _ _ (HK6.out) (fun hHeld2 => ?_)
      clear hK K
      try simp only [Act.put, List.setIfInBounds_toArray, List.set_cons_zero, List.set_cons_succ]
      refine wpAnyH_take (i := 12) (oi := ⟨some 80, .unOp .not 4 (.tmp 79), _, _, _, none⟩) (v := ?_) rfl (by kernel_rfl) (by kernel_rfl) (by kernel_rfl) (fun _ _ _ h => h) (Or.inl ⟨by rfl, ?_⟩) (by assumption) ?_
      rotate_left
      · intro w hSw
        try dsimp only at hSw
        go_simp
        try with_reducible rfl
      try simp only [Act.put, List.setIfInBounds_toArray, List.set_cons_zero, List.set_cons_succ]
      refine wpAnyH_take (i := 13) (oi := ⟨some 81, .move (.tmp 80), _, _, _, none⟩) (v := ?_) rfl (by kernel_rfl) (by kernel_rfl) (by kernel_rfl) (fun _ _ _ h => h) (Or.inl ⟨by rfl, ?_⟩) (by assumption) ?_
      rotate_left
      · intro w hSw
        try dsimp only at hSw
        go_simp
        try with_reducible rfl
      try simp only [Act.put, List.setIfInBounds_toArray, List.set_cons_zero, List.set_cons_succ]
      refine wpAnyH_take (i := 14) (oi := ⟨some 82, .move (.tmp 0), _, _, _, some (13, true)⟩) (v := ?_) rfl (by kernel_rfl) (by kernel_rfl) (by kernel_rfl) (fun _ _ _ h => h) (Or.inl ⟨by rfl, ?_⟩) (by assumption) ?_
      rotate_left
      · intro w hSw
        try dsimp only at hSw
        go_simp
        try with_reducible rfl
      try simp only [Act.put, List.setIfInBounds_toArray, List.set_cons_zero, List.set_cons_succ]
      refine wpAnyH_take (i := 15) (oi := ⟨some 83, .move (.tmp 8), _, _, _, some (13, true)⟩) (v := ?_) rfl (by kernel_rfl) (by kernel_rfl) (by kernel_rfl) (fun _ _ _ h => h) (Or.inl ⟨by rfl, ?_⟩) (by assumption) ?_
      rotate_left
      · intro w hSw
        try dsimp only at hSw
        go_simp
        try with_reducible rfl
      try simp only [Act.put, List.setIfInBounds_toArray, List.set_cons_zero, List.set_cons_succ]
      refine wpAnyH_ready (rs := [16]) (by kernel_rfl) (by simp) ?_
      refine AllReadyH.cons (o := ⟨some 84, _, _, _, _, some (13, true)⟩) rfl (fun K hK => ?_) AllReadyH.nil
      go_simp
      (go_at_call 26; refine (HSA.out _ HB.out HR2.out).mono ?_; rintro e wq ⟨rfl, hb⟩)
      replace HB := Kp.mk (HB.out.trans (hb.mono HB.out.size))
      replace HR2 := Kp.mk (HR2.out.below hb)
      replace HK6 := Kp.mk (HC4.out _ HB.out)
      clear hb
      try go_wp2_with fail
      refine hK.out _ _ (HK6.out) (fun hHeld2 => ?_)
      clear hK K
      try simp only [Act.put, List.setIfInBounds_toArray, List.set_cons_zero, List.set_cons_succ]
      refine wpAnyH_take (i := 17) (oi := ⟨some 85, .unOp .not 4 (.tmp 84), _, _, _, some (13, true)⟩) (v := ?_) rfl (by kernel_rfl) (by kernel_rfl) (by kernel_rfl) (fun _ _ _ h => h) (Or.inl ⟨by rfl, ?_⟩) (by assumption) ?_
      rotate_left
      · intro w hSw
        try dsimp only at hSw
        go_simp
        try with_reducible rfl
      try simp only [Act.put, List.setIfInBounds_toArray, List.set_cons_zero, List.set_cons_succ]
      refine wpAnyH_take (i := 18) (oi := ⟨some 86, .pick (.tmp 81) (.tmp 85) (.const (.bool false)), _, _, _, none⟩) (v := ?_) rfl (by kernel_rfl) (by kernel_rfl) (by kernel_rfl) (fun _ _ _ h => h) (Or.inl ⟨by rfl, ?_⟩) (by assumption) ?_
      rotate_left
      · intro w hSw
        try dsimp only at hSw
        go_simp
        try with_reducible rfl
      try simp only [Act.put, List.setIfInBounds_toArray, List.set_cons_zero, List.set_cons_succ]
      refine wpAnyH_done (by kernel_rfl) ?_ _
      go_wp2_with fail
      go_meet
      exact ⟨rfl, HB.out⟩
    · clear hfo HTR
      refine wp_region_held_drew (S := fun w' => w'.cell? ⟨b, o + k * 2, none⟩ = some (.string a.1) ∧ w'.cell? ⟨b, o + (k + 1) * 2, none⟩ = some (.string c.1)) (by kernel_rfl) (HC4.out _ HB.out) (fun hHeld => ?_)
      refine wpAnyH_take (i := 0) (oi := ⟨some 68, .move (.tmp 0), _, _, _, none⟩) (v := ?_) rfl (by kernel_rfl) (by kernel_rfl) (by kernel_rfl) (fun _ _ _ h => h) (Or.inl ⟨by rfl, ?_⟩) (by assumption) ?_
      rotate_left
      · intro w hSw
        try dsimp only at hSw
        go_simp
        try with_reducible rfl
      try simp only [Act.put, List.setIfInBounds_toArray, List.set_cons_zero, List.set_cons_succ]
      refine wpAnyH_take (i := 1) (oi := ⟨some 69, .move (.tmp 1), _, _, _, none⟩) (v := ?_) rfl (by kernel_rfl) (by kernel_rfl) (by kernel_rfl) (fun _ _ _ h => h) (Or.inl ⟨by rfl, ?_⟩) (by assumption) ?_
      rotate_left
      · intro w hSw
        try dsimp only at hSw
        go_simp
        try with_reducible rfl
      try simp only [Act.put, List.setIfInBounds_toArray, List.set_cons_zero, List.set_cons_succ]
      refine wpAnyH_take (i := 2) (oi := ⟨some 70, .indexAddr 22 (.tmp 68) (.tmp 69), _, _, _, none⟩) (v := ?_) rfl (by kernel_rfl) (by kernel_rfl) (by kernel_rfl) (fun _ _ _ h => h) (Or.inl ⟨by rfl, ?_⟩) (by assumption) ?_
      rotate_left
      · intro w hSw
        try dsimp only at hSw
        go_simp
        try with_reducible rfl
      try simp only [Act.put, List.setIfInBounds_toArray, List.set_cons_zero, List.set_cons_succ]
      refine wpAnyH_take (i := 3) (oi := ⟨some 71, .fieldAddr 64 (.tmp 70) 0, _, _, _, none⟩) (v := ?_) rfl (by kernel_rfl) (by kernel_rfl) (by kernel_rfl) (fun _ _ _ h => h) (Or.inl ⟨by rfl, ?_⟩) (by assumption) ?_
      rotate_left
      · intro w hSw
        try dsimp only at hSw
        go_simp
        try with_reducible rfl
      try simp only [Act.put, List.setIfInBounds_toArray, List.set_cons_zero, List.set_cons_succ]
      refine wpAnyH_take (i := 4) (oi := ⟨some 72, .load 9 (.tmp 71), _, _, _, none⟩) (v := ?_) rfl (by kernel_rfl) (by kernel_rfl) (by kernel_rfl) (fun _ _ _ h => h) (Or.inl ⟨by rfl, ?_⟩) (by assumption) ?_
      rotate_left
      · intro w hSw
        try dsimp only at hSw
        go_simp
        try with_reducible rfl
      try simp only [Act.put, List.setIfInBounds_toArray, List.set_cons_zero, List.set_cons_succ]
      refine wpAnyH_take (i := 5) (oi := ⟨some 73, .move (.tmp 0), _, _, _, none⟩) (v := ?_) rfl (by kernel_rfl) (by kernel_rfl) (by kernel_rfl) (fun _ _ _ h => h) (Or.inl ⟨by rfl, ?_⟩) (by assumption) ?_
      rotate_left
      · intro w hSw
        try dsimp only at hSw
        go_simp
        try with_reducible rfl
      try simp only [Act.put, List.setIfInBounds_toArray, List.set_cons_zero, List.set_cons_succ]
      refine wpAnyH_take (i := 6) (oi := ⟨some 74, .move (.tmp 1), _, _, _, none⟩) (v := ?_) rfl (by kernel_rfl) (by kernel_rfl) (by kernel_rfl) (fun _ _ _ h => h) (Or.inl ⟨by rfl, ?_⟩) (by assumption) ?_
      rotate_left
      · intro w hSw
        try dsimp only at hSw
        go_simp
        try with_reducible rfl
      try simp only [Act.put, List.setIfInBounds_toArray, List.set_cons_zero, List.set_cons_succ]
      refine wpAnyH_take (i := 7) (oi := ⟨some 75, .binOp .add 3 (.tmp 74) (.const (.int .i64 1)) 3, _, _, _, none⟩) (v := ?_) rfl (by kernel_rfl) (by kernel_rfl) (by kernel_rfl) (fun _ _ _ h => h) (Or.inl ⟨by rfl, ?_⟩) (by assumption) ?_
      rotate_left
      · intro w hSw
        try dsimp only at hSw
        go_simp
        try with_reducible rfl
      try simp only [Act.put, List.setIfInBounds_toArray, List.set_cons_zero, List.set_cons_succ]
      refine wpAnyH_take (i := 8) (oi := ⟨some 76, .indexAddr 22 (.tmp 73) (.tmp 75), _, _, _, none⟩) (v := ?_) rfl (by kernel_rfl) (by kernel_rfl) (by kernel_rfl) (fun _ _ _ h => h) (Or.inl ⟨by rfl, ?_⟩) (by assumption) ?_
      rotate_left
      · intro w hSw
        try dsimp only at hSw
        go_simp
        try with_reducible rfl
      try simp only [Act.put, List.setIfInBounds_toArray, List.set_cons_zero, List.set_cons_succ]
      refine wpAnyH_take (i := 9) (oi := ⟨some 77, .fieldAddr 64 (.tmp 76) 0, _, _, _, none⟩) (v := ?_) rfl (by kernel_rfl) (by kernel_rfl) (by kernel_rfl) (fun _ _ _ h => h) (Or.inl ⟨by rfl, ?_⟩) (by assumption) ?_
      rotate_left
      · intro w hSw
        try dsimp only at hSw
        go_simp
        try with_reducible rfl
      try simp only [Act.put, List.setIfInBounds_toArray, List.set_cons_zero, List.set_cons_succ]
      refine wpAnyH_take (i := 10) (oi := ⟨some 78, .load 9 (.tmp 77), _, _, _, none⟩) (v := ?_) rfl (by kernel_rfl) (by kernel_rfl) (by kernel_rfl) (fun _ _ _ h => h) (Or.inl ⟨by rfl, ?_⟩) (by assumption) ?_
      rotate_left
      · intro w hSw
        try dsimp only at hSw
        go_simp
        try with_reducible rfl
      try simp only [Act.put, List.setIfInBounds_toArray, List.set_cons_zero, List.set_cons_succ]
      refine wpAnyH_ready (rs := [11]) (by kernel_rfl) (by simp) ?_
      refine AllReadyH.cons (o := ⟨some 79, _, _, _, _, none⟩) rfl (fun K hK => ?_) AllReadyH.nil
      go_simp
      (go_at_call 31; refine (HFO.out _).mono ?_; rintro e wq ⟨rfl, hb⟩)
      replace HB := Kp.mk (HB.out.trans (hb.mono HB.out.size))
      replace HR2 := Kp.mk (HR2.out.below hb)
      replace HK6 := Kp.mk (HC4.out _ HB.out)
      clear hb
      try go_wp2_with fail
      refine hK.out _ _ (HK6.out) (fun hHeld2 => ?_)
      clear hK K
      try simp only [Act.put, List.setIfInBounds_toArray, List.set_cons_zero, List.set_cons_succ]
      refine wpAnyH_take (i := 12) (oi := ⟨some 80, .unOp .not 4 (.tmp 79), _, _, _, none⟩) (v := ?_) rfl (by kernel_rfl) (by kernel_rfl) (by kernel_rfl) (fun _ _ _ h => h) (Or.inl ⟨by rfl, ?_⟩) (by assumption) ?_
      rotate_left
      · intro w hSw
        try dsimp only at hSw
        go_simp
        try with_reducible rfl
      try simp only [Act.put, List.setIfInBounds_toArray, List.set_cons_zero, List.set_cons_succ]
      refine wpAnyH_take (i := 13) (oi := ⟨some 81, .move (.tmp 80), _, _, _, none⟩) (v := ?_) rfl (by kernel_rfl) (by kernel_rfl) (by kernel_rfl) (fun _ _ _ h => h) (Or.inl ⟨by rfl, ?_⟩) (by assumption) ?_
      rotate_left
      · intro w hSw
        try dsimp only at hSw
        go_simp
        try with_reducible rfl
      try simp only [Act.put, List.setIfInBounds_toArray, List.set_cons_zero, List.set_cons_succ]
      refine wpAnyH_take (i := 14) (oi := ⟨some 82, _, _, _, _, some (13, true)⟩) (v := undef) rfl (by kernel_rfl) (by kernel_rfl) (by kernel_rfl) (fun _ _ _ h => h) (Or.inr ⟨by rfl, rfl⟩) (by assumption) ?_
      try simp only [Act.put, List.setIfInBounds_toArray, List.set_cons_zero, List.set_cons_succ]
      refine wpAnyH_take (i := 15) (oi := ⟨some 83, _, _, _, _, some (13, true)⟩) (v := undef) rfl (by kernel_rfl) (by kernel_rfl) (by kernel_rfl) (fun _ _ _ h => h) (Or.inr ⟨by rfl, rfl⟩) (by assumption) ?_
      try simp only [Act.put, List.setIfInBounds_toArray, List.set_cons_zero, List.set_cons_succ]
      refine wpAnyH_take (i := 16) (oi := ⟨some 84, _, _, _, _, some (13, true)⟩) (v := undef) rfl (by kernel_rfl) (by kernel_rfl) (by kernel_rfl) (fun _ _ _ h => h) (Or.inr ⟨by rfl, rfl⟩) (by assumption) ?_
      try simp only [Act.put, List.setIfInBounds_toArray, List.set_cons_zero, List.set_cons_succ]
      refine wpAnyH_take (i := 17) (oi := ⟨some 85, _, _, _, _, some (13, true)⟩) (v := undef) rfl (by kernel_rfl) (by kernel_rfl) (by kernel_rfl) (fun _ _ _ h => h) (Or.inr ⟨by rfl, rfl⟩) (by assumption) ?_
      try simp only [Act.put, List.setIfInBounds_toArray, List.set_cons_zero, List.set_cons_succ]
      refine wpAnyH_take (i := 18) (oi := ⟨some 86, .pick (.tmp 81) (.tmp 85) (.const (.bool false)), _, _, _, none⟩) (v := ?_) rfl (by kernel_rfl) (by kernel_rfl) (by kernel_rfl) (fun _ _ _ h => h) (Or.inl ⟨by rfl, ?_⟩) (by assumption) ?_
      rotate_left
      · intro w hSw
        try dsimp only at hSw
        go_simp
        try with_reducible rfl
      try simp only [Act.put, List.setIfInBounds_toArray, List.set_cons_zero, List.set_cons_succ]
      refine wpAnyH_done (by kernel_rfl) ?_ _
      go_wp2_with fail
      go_meet
      exact ⟨rfl, HB.out⟩
  case rest =>
    obtain ⟨rfl, hbc⟩ := hcut
    replace HB := Kp.mk hbc
    clear hbc HFO HTR HK6 HR2 CS2 HE2
    have HSG := Kp.mk (fun w5 => csingle_any a.1 w5 (by have := HSM.out.1.1; omega))
    have HQ := Kp.mk HZ.out.2.2
    obtain ⟨⟨d1, d2⟩, d3, d4⟩ := HC8.out wc HB.out
    go_upto_region 13 with fail
    go_wp2_with fail
    refine (HSG.out _).mono ?_
    rintro e w9 ⟨rfl, hb⟩
    replace HB := Kp.mk (HB.out.trans (hb.mono HB.out.size))
    clear hb HSG d1 d2 d3 d4
    cases hsg : sgB a.1
    all_goals (rw [hsg] at HQ)
    rotate_left
    · clear HQ HC8 HC4 HC CS3 HE3 HE4 HZ H
      go_wp2_with fail
      refine (lives50_any _).mono ?_
      rintro e wz ⟨rfl, hbz⟩
      go_wp2_with fail
      go_ret
      exact ⟨rfl, HB.out.trans (hbz.mono HB.out.size)⟩
    have hq := HQ.out rfl
    rw [hq] at CS3
    clear hq hsg HQ HZ
    go_upto_region 15 with fail
    have HN1 := Kp.mk (fun (X : World) (hb : Below w.heap.size w X) => show ∀ j u, (fvH (l.take (k + 1)))[j]? = some u → X.cell? ((⟨b, o, none⟩ : Addr).add j) = some u from fun j u hj => by
      rw [fvH_takeC (by omega), List.getElem?_take] at hj
      split at hj
      · rw [Addr.add_lit]; exact HC.out X hb j u hj
      · cases hj)
    have HN0 := Kp.mk (fun (X : World) (hb : Below w.heap.size w X) => show ∀ j u, (fvH (l.take k))[j]? = some u → X.cell? ((⟨b, o, none⟩ : Addr).add j) = some u from fun j u hj => by
      rw [fvH_takeC (by omega), List.getElem?_take] at hj
      split at hj
      · rw [Addr.add_lit]; exact HC.out X hb j u hj
      · cases hj)
    have HND := Kp.mk (fun (X : World) (hb : Below w.heap.size w X) => show ∀ j u, (fvH (l.drop (k + 1)))[j]? = some u → X.cell? ((⟨b, o + (k + 1) * 2, none⟩ : Addr).add j) = some u from fun j u hj => by
      rw [fvH_dropC (by omega)] at hj
      rw [Addr.add_lit, Nat.add_assoc]
      exact HC.out X hb _ u hj)
    have HL1 := Kp.mk (show (fvH (l.take (k + 1))).length = (k + 1) * 2 by rw [fvH_len, List.length_take, Nat.min_eq_left (by omega)])
    have HL0 := Kp.mk (show (fvH (l.take k)).length = k * 2 by rw [fvH_len, List.length_take, Nat.min_eq_left (by omega)])
    have HLD := Kp.mk (show (fvH (l.drop (k + 1))).length = (l.length - (k + 1)) * 2 by rw [fvH_len, List.length_drop])
    have HU1 := Kp.mk (fvH_one (l.take (k + 1)))
    have HU0 := Kp.mk (fvH_one (l.take k))
    have HUD := Kp.mk (fvH_one (l.drop (k + 1)))
    generalize fvH (l.take (k + 1)) = X1 at *
    generalize fvH (l.take k) = X0 at *
    generalize fvH (l.drop (k + 1)) = XD at *
    clear HC
    have hle1 : (k : Int) + 1 ≤ (c0 : Int) := by omega
    have hle0 : (k : Int) ≤ (c0 : Int) := by omega
    have m1 : 0 + (k + 1) ≤ maxLen := by unfold maxLen; omega
    have m2 : (0 + (k + 1)) * 32 ≤ 140737488355328 := by omega
    have m3 : 0 + k ≤ maxLen := by unfold maxLen; omega
    have m4 : (0 + k) * 32 ≤ 140737488355328 := by omega
    have q1 : (k : Int) ≤ (k : Int) + 1 := by omega
    go_cut [9, 10] (fun two one wx => wx.ownsRow w.heap.size 64 2 two (k + 1) X1 ∧ wx.ownsRow w.heap.size 64 2 one k X0 ∧ two.ownBlock ≠ one.ownBlock ∧ Below w.heap.size w wx)
    case first =>
      replace HB := Kp.mk (HB.out.trans ((gdrew1 w9).mono HB.out.size))
      refine wp_region_held_drew (S := fun _ => True) (by kernel_rfl) trivial (fun hHeld => ?_)
      refine wpAnyH_take (i := 1) (oi := ⟨some 95, .move (.tmp 0), _, _, _, none⟩) (v := ?_) rfl (by kernel_rfl) (by kernel_rfl) (by kernel_rfl) (fun _ _ _ h => h) (Or.inl ⟨by rfl, ?_⟩) (by assumption) ?_
      rotate_left
      · intro wk hSw
        go_simp
        try with_reducible rfl
      try simp only [Act.put, List.setIfInBounds_toArray, List.set_cons_zero, List.set_cons_succ]
      refine wpAnyH_take (i := 2) (oi := ⟨some 96, .move (.tmp 1), _, _, _, none⟩) (v := ?_) rfl (by kernel_rfl) (by kernel_rfl) (by kernel_rfl) (fun _ _ _ h => h) (Or.inl ⟨by rfl, ?_⟩) (by assumption) ?_
      rotate_left
      · intro wk hSw
        go_simp
        try with_reducible rfl
      try simp only [Act.put, List.setIfInBounds_toArray, List.set_cons_zero, List.set_cons_succ]
      refine wpAnyH_take (i := 3) (oi := ⟨some 97, .binOp .add 3 (.tmp 96) (.const (.int .i64 1)) 3, _, _, _, none⟩) (v := ?_) rfl (by kernel_rfl) (by kernel_rfl) (by kernel_rfl) (fun _ _ _ h => h) (Or.inl ⟨by rfl, ?_⟩) (by assumption) ?_
      rotate_left
      · intro wk hSw
        go_simp
        try with_reducible rfl
      try simp only [Act.put, List.setIfInBounds_toArray, List.set_cons_zero, List.set_cons_succ]
      refine wpAnyH_take (i := 4) (oi := ⟨some 98, .slice 22 (.tmp 95) none (some (.tmp 97)) none, _, _, _, none⟩) (v := ?_) rfl (by kernel_rfl) (by kernel_rfl) (by kernel_rfl) (fun _ _ _ h => h) (Or.inl ⟨by rfl, ?_⟩) (by assumption) ?_
      rotate_left
      · intro wk hSw
        go_simp
        try with_reducible rfl
      try simp only [Act.put, List.setIfInBounds_toArray, List.set_cons_zero, List.set_cons_succ]
      refine wpAnyH_take (i := 7) (oi := ⟨some 101, .move (.tmp 0), _, _, _, none⟩) (v := ?_) rfl (by kernel_rfl) (by kernel_rfl) (by kernel_rfl) (fun _ _ _ h => h) (Or.inl ⟨by rfl, ?_⟩) (by assumption) ?_
      rotate_left
      · intro wk hSw
        go_simp
        try with_reducible rfl
      try simp only [Act.put, List.setIfInBounds_toArray, List.set_cons_zero, List.set_cons_succ]
      refine wpAnyH_take (i := 8) (oi := ⟨some 102, .move (.tmp 1), _, _, _, none⟩) (v := ?_) rfl (by kernel_rfl) (by kernel_rfl) (by kernel_rfl) (fun _ _ _ h => h) (Or.inl ⟨by rfl, ?_⟩) (by assumption) ?_
      rotate_left
      · intro wk hSw
        go_simp
        try with_reducible rfl
      try simp only [Act.put, List.setIfInBounds_toArray, List.set_cons_zero, List.set_cons_succ]
      refine wpAnyH_take (i := 9) (oi := ⟨some 103, .slice 22 (.tmp 101) none (some (.tmp 102)) none, _, _, _, none⟩) (v := ?_) rfl (by kernel_rfl) (by kernel_rfl) (by kernel_rfl) (fun _ _ _ h => h) (Or.inl ⟨by rfl, ?_⟩) (by assumption) ?_
      rotate_left
      · intro wk hSw
        go_simp
        try with_reducible rfl
      try simp only [Act.put, List.setIfInBounds_toArray, List.set_cons_zero, List.set_cons_succ]
      refine wpAnyH_ready (rs := [0, 6]) (by kernel_rfl) (by simp) ?_
      refine AllReadyH.cons (o := ⟨some 94, _, _, _, _, none⟩) rfl (fun K hK => ?_) (AllReadyH.cons (o := ⟨some 100, _, _, _, _, none⟩) rfl (fun K hK => ?_) AllReadyH.nil)
      · go_simp
        have hb := (Below.refl (w9.drew).heap.size (w9.drew)).alloc (Nat.le_refl _) (.cells #[] 64)
        have OA := Kp.mk (litFC (w9.drew) (B := w.heap.size) HB.out.size)
        replace HB := Kp.mk (HB.out.trans (hb.mono HB.out.size))
        clear hb
        refine hK.out _ _ trivial (fun hHeld2 => ?_)
        clear hK K
        try simp only [Act.put, List.setIfInBounds_toArray, List.set_cons_zero, List.set_cons_succ]
        refine wpAnyH_ready (rs := [5, 6]) (by kernel_rfl) (by simp) ?_
        refine AllReadyH.cons (o := ⟨some 99, _, _, _, _, none⟩) rfl (fun K hK => ?_) (AllReadyH.cons (o := ⟨some 100, _, _, _, _, none⟩) rfl (fun K hK => ?_) AllReadyH.nil)
        · apply oq_app_ownS (s := .tmp 94) (x := .tmp 98) (t := 22) (base := w.heap.size) (e := 64) (size := 2) (n := 0) (xs := []) (hown := OA.out) (ad := ⟨b, o, none⟩) (m := k + 1) (c := c0) (news := X1) (hi := Try.infoFH) (ht := Try.underlying22) (hnews := HN1.out _ HB.out) (h1 := HU1.out) (h63 := m1) (hbytes := m2) (hbase := HB.out.size) (hl := HL1.out)
          all_goals (try (first | rfl | decide | (rw [World.size_alloc]; rfl)))
          intro v1 x1 h1 h2 h3
          rw [Nat.zero_add, List.nil_append] at h1
          replace HB := Kp.mk (HB.out.grown h2 HB.out.size fun kk hk => (OA.out.lt kk hk).1)
          replace OA := Kp.mk h1
          clear h1 h2 h3
          refine hK.out _ _ trivial (fun hHeld2 => ?_)
          clear hK K
          try simp only [Act.put, List.setIfInBounds_toArray, List.set_cons_zero, List.set_cons_succ]
          refine wpAnyH_ready (rs := [6]) (by kernel_rfl) (by simp) ?_
          refine AllReadyH.cons (o := ⟨some 100, _, _, _, _, none⟩) rfl (fun K hK => ?_) AllReadyH.nil
          go_simp
          have hb := (Below.refl (x1).heap.size (x1)).alloc (Nat.le_refl _) (.cells #[] 64)
          have OB := Kp.mk (litFC (x1) (B := w.heap.size) HB.out.size)
          have NE := Kp.mk (ne_newC OA.out)
          replace OA := Kp.mk (own_bel OA.out hb)
          replace HB := Kp.mk (HB.out.trans (hb.mono HB.out.size))
          clear hb
          refine hK.out _ _ trivial (fun hHeld2 => ?_)
          clear hK K
          try simp only [Act.put, List.setIfInBounds_toArray, List.set_cons_zero, List.set_cons_succ]
          refine wpAnyH_ready (rs := [10]) (by kernel_rfl) (by simp) ?_
          refine AllReadyH.cons (o := ⟨some 104, _, _, _, _, none⟩) rfl (fun K hK => ?_) AllReadyH.nil
          apply oq_app_ownS (s := .tmp 100) (x := .tmp 103) (t := 22) (base := w.heap.size) (e := 64) (size := 2) (n := 0) (xs := []) (hown := OB.out) (ad := ⟨b, o, none⟩) (m := k) (c := c0) (news := X0) (hi := Try.infoFH) (ht := Try.underlying22) (hnews := HN0.out _ HB.out) (h1 := HU0.out) (h63 := m3) (hbytes := m4) (hbase := HB.out.size) (hl := HL0.out)
          all_goals (try (first | rfl | decide | (rw [World.size_alloc]; rfl)))
          intro v2 x2 h1 h2 h3
          rw [Nat.zero_add, List.nil_append] at h1
          have NEo := NE
          replace NE := Kp.mk (ne_appC OA.out NE.out h3)
          replace OA := Kp.mk (OA.out.kept h2 (.inr NEo.out))
          replace HB := Kp.mk (HB.out.grown h2 HB.out.size fun kk hk => (OB.out.lt kk hk).1)
          replace OB := Kp.mk h1
          clear h1 h2 h3
          refine hK.out _ _ trivial (fun hHeld2 => ?_)
          clear hK K
          try simp only [Act.put, List.setIfInBounds_toArray, List.set_cons_zero, List.set_cons_succ]
          refine wpAnyH_take (i := 11) (oi := ⟨some 9, .assign (.tmp 99), _, _, _, none⟩) (v := ?_) rfl (by kernel_rfl) (by kernel_rfl) (by kernel_rfl) (fun _ _ _ h => h) (Or.inl ⟨by rfl, ?_⟩) (by assumption) ?_
          rotate_left
          · intro wk hSw
            go_simp
            try with_reducible rfl
          try simp only [Act.put, List.setIfInBounds_toArray, List.set_cons_zero, List.set_cons_succ]
          refine wpAnyH_take (i := 12) (oi := ⟨some 10, .assign (.tmp 104), _, _, _, none⟩) (v := ?_) rfl (by kernel_rfl) (by kernel_rfl) (by kernel_rfl) (fun _ _ _ h => h) (Or.inl ⟨by rfl, ?_⟩) (by assumption) ?_
          rotate_left
          · intro wk hSw
            go_simp
            try with_reducible rfl
          try simp only [Act.put, List.setIfInBounds_toArray, List.set_cons_zero, List.set_cons_succ]
          refine wpAnyH_done (by kernel_rfl) ?_ _
          go_wp2_with fail
          go_meet
          exact ⟨OA.out, OB.out, NE.out, HB.out⟩
        · go_simp
          have hb := (Below.refl (((w9.drew).alloc (.cells #[] 64))).heap.size (((w9.drew).alloc (.cells #[] 64)))).alloc (Nat.le_refl _) (.cells #[] 64)
          have OB := Kp.mk (litFC (((w9.drew).alloc (.cells #[] 64))) (B := w.heap.size) HB.out.size)
          have NE := Kp.mk (ne_newC OA.out)
          replace OA := Kp.mk (own_bel OA.out hb)
          replace HB := Kp.mk (HB.out.trans (hb.mono HB.out.size))
          clear hb
          refine hK.out _ _ trivial (fun hHeld2 => ?_)
          clear hK K
          try simp only [Act.put, List.setIfInBounds_toArray, List.set_cons_zero, List.set_cons_succ]
          refine wpAnyH_ready (rs := [5]) (by kernel_rfl) (by simp) ?_
          refine AllReadyH.cons (o := ⟨some 99, _, _, _, _, none⟩) rfl (fun K hK => ?_) AllReadyH.nil
          apply oq_app_ownS (s := .tmp 94) (x := .tmp 98) (t := 22) (base := w.heap.size) (e := 64) (size := 2) (n := 0) (xs := []) (hown := OA.out) (ad := ⟨b, o, none⟩) (m := k + 1) (c := c0) (news := X1) (hi := Try.infoFH) (ht := Try.underlying22) (hnews := HN1.out _ HB.out) (h1 := HU1.out) (h63 := m1) (hbytes := m2) (hbase := HB.out.size) (hl := HL1.out)
          all_goals (try (first | rfl | decide | (rw [World.size_alloc]; rfl)))
          intro v3 x3 h1 h2 h3
          rw [Nat.zero_add, List.nil_append] at h1
          have NEo := NE
          replace NE := Kp.mk (ne_appC OB.out NE.out.symm h3).symm
          replace OB := Kp.mk (OB.out.kept h2 (.inr (NEo.out.symm)))
          replace HB := Kp.mk (HB.out.grown h2 HB.out.size fun kk hk => (OA.out.lt kk hk).1)
          replace OA := Kp.mk h1
          clear h1 h2 h3
          refine hK.out _ _ trivial (fun hHeld2 => ?_)
          clear hK K
          try simp only [Act.put, List.setIfInBounds_toArray, List.set_cons_zero, List.set_cons_succ]
          refine wpAnyH_ready (rs := [10]) (by kernel_rfl) (by simp) ?_
          refine AllReadyH.cons (o := ⟨some 104, _, _, _, _, none⟩) rfl (fun K hK => ?_) AllReadyH.nil
          apply oq_app_ownS (s := .tmp 100) (x := .tmp 103) (t := 22) (base := w.heap.size) (e := 64) (size := 2) (n := 0) (xs := []) (hown := OB.out) (ad := ⟨b, o, none⟩) (m := k) (c := c0) (news := X0) (hi := Try.infoFH) (ht := Try.underlying22) (hnews := HN0.out _ HB.out) (h1 := HU0.out) (h63 := m3) (hbytes := m4) (hbase := HB.out.size) (hl := HL0.out)
          all_goals (try (first | rfl | decide | (rw [World.size_alloc]; rfl)))
          intro v4 x4 h1 h2 h3
          rw [Nat.zero_add, List.nil_append] at h1
          have NEo := NE
          replace NE := Kp.mk (ne_appC OA.out NE.out h3)
          replace OA := Kp.mk (OA.out.kept h2 (.inr NEo.out))
          replace HB := Kp.mk (HB.out.grown h2 HB.out.size fun kk hk => (OB.out.lt kk hk).1)
          replace OB := Kp.mk h1
          clear h1 h2 h3
          refine hK.out _ _ trivial (fun hHeld2 => ?_)
          clear hK K
          try simp only [Act.put, List.setIfInBounds_toArray, List.set_cons_zero, List.set_cons_succ]
          refine wpAnyH_take (i := 11) (oi := ⟨some 9, .assign (.tmp 99), _, _, _, none⟩) (v := ?_) rfl (by kernel_rfl) (by kernel_rfl) (by kernel_rfl) (fun _ _ _ h => h) (Or.inl ⟨by rfl, ?_⟩) (by assumption) ?_
          rotate_left
          · intro wk hSw
            go_simp
            try with_reducible rfl
          try simp only [Act.put, List.setIfInBounds_toArray, List.set_cons_zero, List.set_cons_succ]
          refine wpAnyH_take (i := 12) (oi := ⟨some 10, .assign (.tmp 104), _, _, _, none⟩) (v := ?_) rfl (by kernel_rfl) (by kernel_rfl) (by kernel_rfl) (fun _ _ _ h => h) (Or.inl ⟨by rfl, ?_⟩) (by assumption) ?_
          rotate_left
          · intro wk hSw
            go_simp
            try with_reducible rfl
          try simp only [Act.put, List.setIfInBounds_toArray, List.set_cons_zero, List.set_cons_succ]
          refine wpAnyH_done (by kernel_rfl) ?_ _
          go_wp2_with fail
          go_meet
          exact ⟨OA.out, OB.out, NE.out, HB.out⟩
      · go_simp
        have hb := (Below.refl (w9.drew).heap.size (w9.drew)).alloc (Nat.le_refl _) (.cells #[] 64)
        have OB := Kp.mk (litFC (w9.drew) (B := w.heap.size) HB.out.size)
        replace HB := Kp.mk (HB.out.trans (hb.mono HB.out.size))
        clear hb
        refine hK.out _ _ trivial (fun hHeld2 => ?_)
        clear hK K
        try simp only [Act.put, List.setIfInBounds_toArray, List.set_cons_zero, List.set_cons_succ]
        refine wpAnyH_ready (rs := [0]) (by kernel_rfl) (by simp) ?_
        refine AllReadyH.cons (o := ⟨some 94, _, _, _, _, none⟩) rfl (fun K hK => ?_) AllReadyH.nil
        go_simp
        have hb := (Below.refl (((w9.drew).alloc (.cells #[] 64))).heap.size (((w9.drew).alloc (.cells #[] 64)))).alloc (Nat.le_refl _) (.cells #[] 64)
        have OA := Kp.mk (litFC (((w9.drew).alloc (.cells #[] 64))) (B := w.heap.size) HB.out.size)
        have NE := Kp.mk (ne_newC OB.out).symm
        replace OB := Kp.mk (own_bel OB.out hb)
        replace HB := Kp.mk (HB.out.trans (hb.mono HB.out.size))
        clear hb
        refine hK.out _ _ trivial (fun hHeld2 => ?_)
        clear hK K
        try simp only [Act.put, List.setIfInBounds_toArray, List.set_cons_zero, List.set_cons_succ]
        refine wpAnyH_ready (rs := [5]) (by kernel_rfl) (by simp) ?_
        refine AllReadyH.cons (o := ⟨some 99, _, _, _, _, none⟩) rfl (fun K hK => ?_) AllReadyH.nil
        apply oq_app_ownS (s := .tmp 94) (x := .tmp 98) (t := 22) (base := w.heap.size) (e := 64) (size := 2) (n := 0) (xs := []) (hown := OA.out) (ad := ⟨b, o, none⟩) (m := k + 1) (c := c0) (news := X1) (hi := Try.infoFH) (ht := Try.underlying22) (hnews := HN1.out _ HB.out) (h1 := HU1.out) (h63 := m1) (hbytes := m2) (hbase := HB.out.size) (hl := HL1.out)
        all_goals (try (first | rfl | decide | (rw [World.size_alloc]; rfl)))
        intro v5 x5 h1 h2 h3
        rw [Nat.zero_add, List.nil_append] at h1
        have NEo := NE
        replace NE := Kp.mk (ne_appC OB.out NE.out.symm h3).symm
        replace OB := Kp.mk (OB.out.kept h2 (.inr (NEo.out.symm)))
        replace HB := Kp.mk (HB.out.grown h2 HB.out.size fun kk hk => (OA.out.lt kk hk).1)
        replace OA := Kp.mk h1
        clear h1 h2 h3
        refine hK.out _ _ trivial (fun hHeld2 => ?_)
        clear hK K
        try simp only [Act.put, List.setIfInBounds_toArray, List.set_cons_zero, List.set_cons_succ]
        refine wpAnyH_ready (rs := [10]) (by kernel_rfl) (by simp) ?_
        refine AllReadyH.cons (o := ⟨some 104, _, _, _, _, none⟩) rfl (fun K hK => ?_) AllReadyH.nil
        apply oq_app_ownS (s := .tmp 100) (x := .tmp 103) (t := 22) (base := w.heap.size) (e := 64) (size := 2) (n := 0) (xs := []) (hown := OB.out) (ad := ⟨b, o, none⟩) (m := k) (c := c0) (news := X0) (hi := Try.infoFH) (ht := Try.underlying22) (hnews := HN0.out _ HB.out) (h1 := HU0.out) (h63 := m3) (hbytes := m4) (hbase := HB.out.size) (hl := HL0.out)
        all_goals (try (first | rfl | decide | (rw [World.size_alloc]; rfl)))
        intro v6 x6 h1 h2 h3
        rw [Nat.zero_add, List.nil_append] at h1
        have NEo := NE
        replace NE := Kp.mk (ne_appC OA.out NE.out h3)
        replace OA := Kp.mk (OA.out.kept h2 (.inr NEo.out))
        replace HB := Kp.mk (HB.out.grown h2 HB.out.size fun kk hk => (OB.out.lt kk hk).1)
        replace OB := Kp.mk h1
        clear h1 h2 h3
        refine hK.out _ _ trivial (fun hHeld2 => ?_)
        clear hK K
        try simp only [Act.put, List.setIfInBounds_toArray, List.set_cons_zero, List.set_cons_succ]
        refine wpAnyH_take (i := 11) (oi := ⟨some 9, .assign (.tmp 99), _, _, _, none⟩) (v := ?_) rfl (by kernel_rfl) (by kernel_rfl) (by kernel_rfl) (fun _ _ _ h => h) (Or.inl ⟨by rfl, ?_⟩) (by assumption) ?_
        rotate_left
        · intro wk hSw
          go_simp
          try with_reducible rfl
        try simp only [Act.put, List.setIfInBounds_toArray, List.set_cons_zero, List.set_cons_succ]
        refine wpAnyH_take (i := 12) (oi := ⟨some 10, .assign (.tmp 104), _, _, _, none⟩) (v := ?_) rfl (by kernel_rfl) (by kernel_rfl) (by kernel_rfl) (fun _ _ _ h => h) (Or.inl ⟨by rfl, ?_⟩) (by assumption) ?_
        rotate_left
        · intro wk hSw
          go_simp
          try with_reducible rfl
        try simp only [Act.put, List.setIfInBounds_toArray, List.set_cons_zero, List.set_cons_succ]
        refine wpAnyH_done (by kernel_rfl) ?_ _
        go_wp2_with fail
        go_meet
        exact ⟨OA.out, OB.out, NE.out, HB.out⟩
    case rest =>
      obtain ⟨hA, hB, hne, hbc⟩ := hcut
      obtain ⟨a9, c9, rfl⟩ := own_lenH hA
      obtain ⟨a10, c10, rfl⟩ := own_lenH hB
      replace HB := Kp.mk hbc
      have OA := Kp.mk hA
      have OB := Kp.mk hB
      have NE := Kp.mk hne
      clear hA hB hne hbc HN0 HN1 HU0 HU1 HL1 HL0 m1 m2 m3 m4 hle0 HC4 
      obtain ⟨⟨d1, d2⟩, -, -⟩ := HC8.out wc HB.out
      have hcne : ¬ c0 = k + 1 := by omega
      have hcne2 : ¬ (c0 : Int) = (k : Int) + 1 := by omega
      have hjl : (k : Int) + 1 ≤ (l.length : Int) := by omega
      obtain ⟨hNA, hNB, z1, z2, z3, z4, z5, z6, z7, z8⟩ := stay_nums hk hl1
      have HNA := Kp.mk hNA
      have HNB := Kp.mk hNB
      clear hNA hNB
      go_upto_region 16 with fail
      have HBD := Kp.mk (HB.out.trans ((gdrew1 wc).mono HB.out.size))
      replace OA := Kp.mk (own_bel OA.out (gdrew1 wc))
      replace OB := Kp.mk (own_bel OB.out (gdrew1 wc))
      have HBa := Kp.mk (HBD.out.alloc HBD.out.size (.cells #[.string a.1, .string v] 64))
      have hszw := HBD.out.size
      go_cut [9] (fun two wx => wx.ownsRow w.heap.size 64 2 two (l.length + 1) (fvH T2) ∧ wx.ownsRow w.heap.size 64 2 (.slice a10 k c10) k X0 ∧ two.ownBlock ≠ (Value.slice a10 k c10).ownBlock ∧ Below w.heap.size w wx)
      case first =>
        refine wp_region_held_drew (S := fun w' => w'.cell? ⟨b, o + k * 2, none⟩ = some (.string a.1)) (by kernel_rfl) (d1) (fun hHeld => ?_)
        refine wpAnyH_take (i := 0) (oi := ⟨some 105, .move (.tmp 9), _, _, _, none⟩) (v := ?_) rfl (by kernel_rfl) (by kernel_rfl) (by kernel_rfl) (fun _ _ _ h => h) (Or.inl ⟨by rfl, ?_⟩) (by assumption) ?_
        rotate_left
        · intro w hSw
          try dsimp only at hSw
          go_simp
          try with_reducible rfl
        try simp only [Act.put, List.setIfInBounds_toArray, List.set_cons_zero, List.set_cons_succ]
        refine wpAnyH_take (i := 1) (oi := ⟨some 106, .move (.tmp 0), _, _, _, none⟩) (v := ?_) rfl (by kernel_rfl) (by kernel_rfl) (by kernel_rfl) (fun _ _ _ h => h) (Or.inl ⟨by rfl, ?_⟩) (by assumption) ?_
        rotate_left
        · intro w hSw
          try dsimp only at hSw
          go_simp
          try with_reducible rfl
        try simp only [Act.put, List.setIfInBounds_toArray, List.set_cons_zero, List.set_cons_succ]
        refine wpAnyH_take (i := 2) (oi := ⟨some 107, .move (.tmp 1), _, _, _, none⟩) (v := ?_) rfl (by kernel_rfl) (by kernel_rfl) (by kernel_rfl) (fun _ _ _ h => h) (Or.inl ⟨by rfl, ?_⟩) (by assumption) ?_
        rotate_left
        · intro w hSw
          try dsimp only at hSw
          go_simp
          try with_reducible rfl
        try simp only [Act.put, List.setIfInBounds_toArray, List.set_cons_zero, List.set_cons_succ]
        refine wpAnyH_take (i := 3) (oi := ⟨some 108, .indexAddr 22 (.tmp 106) (.tmp 107), _, _, _, none⟩) (v := ?_) rfl (by kernel_rfl) (by kernel_rfl) (by kernel_rfl) (fun _ _ _ h => h) (Or.inl ⟨by rfl, ?_⟩) (by assumption) ?_
        rotate_left
        · intro w hSw
          try dsimp only at hSw
          go_simp
          try with_reducible rfl
        try simp only [Act.put, List.setIfInBounds_toArray, List.set_cons_zero, List.set_cons_succ]
        refine wpAnyH_take (i := 4) (oi := ⟨some 109, .fieldAddr 64 (.tmp 108) 0, _, _, _, none⟩) (v := ?_) rfl (by kernel_rfl) (by kernel_rfl) (by kernel_rfl) (fun _ _ _ h => h) (Or.inl ⟨by rfl, ?_⟩) (by assumption) ?_
        rotate_left
        · intro w hSw
          try dsimp only at hSw
          go_simp
          try with_reducible rfl
        try simp only [Act.put, List.setIfInBounds_toArray, List.set_cons_zero, List.set_cons_succ]
        refine wpAnyH_take (i := 5) (oi := ⟨some 110, .load 9 (.tmp 109), _, _, _, none⟩) (v := ?_) rfl (by kernel_rfl) (by kernel_rfl) (by kernel_rfl) (fun _ _ _ h => h) (Or.inl ⟨by rfl, ?_⟩) (by assumption) ?_
        rotate_left
        · intro w hSw
          try dsimp only at hSw
          go_simp
          try with_reducible rfl
        try simp only [Act.put, List.setIfInBounds_toArray, List.set_cons_zero, List.set_cons_succ]
        refine wpAnyH_take (i := 6) (oi := ⟨some 111, .move (.tmp 2), _, _, _, none⟩) (v := ?_) rfl (by kernel_rfl) (by kernel_rfl) (by kernel_rfl) (fun _ _ _ h => h) (Or.inl ⟨by rfl, ?_⟩) (by assumption) ?_
        rotate_left
        · intro w hSw
          try dsimp only at hSw
          go_simp
          try with_reducible rfl
        try simp only [Act.put, List.setIfInBounds_toArray, List.set_cons_zero, List.set_cons_succ]
        refine wpAnyH_take (i := 7) (oi := ⟨some 112, .build 64 #[(0, .tmp 110), (1, .tmp 111)], _, _, _, none⟩) (v := ?_) rfl (by kernel_rfl) (by kernel_rfl) (by kernel_rfl) (fun _ _ _ h => h) (Or.inl ⟨by rfl, ?_⟩) (by assumption) ?_
        rotate_left
        · intro w hSw
          try dsimp only at hSw
          go_simp
          try with_reducible rfl
        try simp only [Act.put, List.setIfInBounds_toArray, List.set_cons_zero, List.set_cons_succ]
        refine wpAnyH_take (i := 10) (oi := ⟨some 115, .move (.tmp 0), _, _, _, none⟩) (v := ?_) rfl (by kernel_rfl) (by kernel_rfl) (by kernel_rfl) (fun _ _ _ h => h) (Or.inl ⟨by rfl, ?_⟩) (by assumption) ?_
        rotate_left
        · intro w hSw
          try dsimp only at hSw
          go_simp
          try with_reducible rfl
        try simp only [Act.put, List.setIfInBounds_toArray, List.set_cons_zero, List.set_cons_succ]
        refine wpAnyH_take (i := 11) (oi := ⟨some 116, .move (.tmp 1), _, _, _, none⟩) (v := ?_) rfl (by kernel_rfl) (by kernel_rfl) (by kernel_rfl) (fun _ _ _ h => h) (Or.inl ⟨by rfl, ?_⟩) (by assumption) ?_
        rotate_left
        · intro w hSw
          try dsimp only at hSw
          go_simp
          try with_reducible rfl
        try simp only [Act.put, List.setIfInBounds_toArray, List.set_cons_zero, List.set_cons_succ]
        refine wpAnyH_take (i := 12) (oi := ⟨some 117, .binOp .add 3 (.tmp 116) (.const (.int .i64 1)) 3, _, _, _, none⟩) (v := ?_) rfl (by kernel_rfl) (by kernel_rfl) (by kernel_rfl) (fun _ _ _ h => h) (Or.inl ⟨by rfl, ?_⟩) (by assumption) ?_
        rotate_left
        · intro w hSw
          try dsimp only at hSw
          go_simp
          try with_reducible rfl
        try simp only [Act.put, List.setIfInBounds_toArray, List.set_cons_zero, List.set_cons_succ]
        refine wpAnyH_take (i := 13) (oi := ⟨some 118, .slice 22 (.tmp 115) (some (.tmp 117)) none none, _, _, _, none⟩) (v := ?_) rfl (by kernel_rfl) (by kernel_rfl) (by kernel_rfl) (fun _ _ _ h => h) (Or.inl ⟨by rfl, ?_⟩) (by assumption) ?_
        rotate_left
        · intro w hSw
          try dsimp only at hSw
          go_simp
          try with_reducible rfl
        try simp only [Act.put, List.setIfInBounds_toArray, List.set_cons_zero, List.set_cons_succ]
        refine wpAnyH_ready (rs := [8]) (by kernel_rfl) (by simp) ?_
        refine AllReadyH.cons (o := ⟨some 113, _, _, _, _, none⟩) rfl (fun K hK => ?_) AllReadyH.nil
        go_simp
        refine hK.out _ _ ((HC8.out _ HBa.out).1.1) (fun hHeld2 => ?_)
        clear hK K
        try simp only [Act.put, List.setIfInBounds_toArray, List.set_cons_zero, List.set_cons_succ]
        refine wpAnyH_ready (rs := [9]) (by kernel_rfl) (by simp) ?_
        refine AllReadyH.cons (o := ⟨some 114, _, _, _, _, none⟩) rfl (fun K hK => ?_) AllReadyH.nil
        apply oq_app_any (wr := wc.drew) (e := 64) (cs := #[.string a.1, .string v]) (B := w.heap.size) (v := .slice a9 (k + 1) c9) (hown := OA.out) (H := wc.heap.size) (hH := rfl) (hlen := z1) (hm := z2) (hB := hszw) (hi := Try.infoFH) (ht := Try.underlying22)
        all_goals (try (first | rfl | decide | (intro u hu; simp at hu; rcases hu with rfl | rfl <;> rfl)))
        intro g6 cap6 w6 h1 h2 h3
        have O6 := Kp.mk (show w6.ownsRow w.heap.size 64 2 (.slice (some ⟨g6, 0, none⟩) (k + 1 + 1) cap6) (k + 1 + 1) (X1 ++ [.string a.1, .string v]) from h1)
        have NEo := NE
        replace NE := Kp.mk (ne_anyC (m := k + 1 + 1) (c := cap6) OB.out NE.out.symm h3).symm
        replace OB := Kp.mk ((OB.out.alloc _).kept h2 (.inr NEo.out.symm))
        have HB6 := Kp.mk (HBa.out.grown h2 HBa.out.size fun kk hk => (OA.out.lt kk hk).1)
        clear h1 h2 h3 NEo
        refine hK.out _ _ ((HC8.out _ HB6.out).1.1) (fun hHeld2 => ?_)
        clear hK K
        try simp only [Act.put, List.setIfInBounds_toArray, List.set_cons_zero, List.set_cons_succ]
        refine wpAnyH_ready (rs := [14]) (by kernel_rfl) (by simp) ?_
        refine AllReadyH.cons (o := ⟨some 119, _, _, _, _, none⟩) rfl (fun K hK => ?_) AllReadyH.nil
        apply oq_app_ownS (s := .tmp 114) (x := .tmp 118) (t := 22) (base := w.heap.size) (e := 64) (size := 2) (n := k + 1 + 1) (xs := X1 ++ [.string a.1, .string v]) (hown := O6.out) (ad := ⟨b, o + (k + 1) * 2, none⟩) (m := l.length - (k + 1)) (c := c0 - (k + 1)) (news := XD) (hi := Try.infoFH) (ht := Try.underlying22) (hnews := HND.out _ HB6.out) (h1 := HUD.out) (h63 := z3) (hbytes := z4) (hbase := HB6.out.size) (hl := HLD.out)
        all_goals (try (first | rfl | decide))
        intro v8 w8 h1 h2 h3
        have NEo := NE
        replace NE := Kp.mk (ne_appC OB.out NE.out.symm h3).symm
        replace OB := Kp.mk (OB.out.kept h2 (.inr NEo.out.symm))
        have HB8 := Kp.mk (HB6.out.grown h2 HB6.out.size fun kk hk => (O6.out.lt kk hk).1)
        rw [HNA.out, HE4.out.1] at h1
        have O8 := Kp.mk h1
        clear h1 h2 h3 NEo
        refine hK.out _ _ ((HC8.out _ HB8.out).1.1) (fun hHeld2 => ?_)
        clear hK K
        try simp only [Act.put, List.setIfInBounds_toArray, List.set_cons_zero, List.set_cons_succ]
        refine wpAnyH_take (i := 15) (oi := ⟨some 9, .assign (.tmp 119), _, _, _, none⟩) (v := ?_) rfl (by kernel_rfl) (by kernel_rfl) (by kernel_rfl) (fun _ _ _ h => h) (Or.inl ⟨by rfl, ?_⟩) (by assumption) ?_
        rotate_left
        · intro w hSw
          try dsimp only at hSw
          go_simp
          try with_reducible rfl
        try simp only [Act.put, List.setIfInBounds_toArray, List.set_cons_zero, List.set_cons_succ]
        refine wpAnyH_done (by kernel_rfl) ?_ _
        go_wp2_with fail
        go_meet
        exact ⟨O8.out, OB.out, NE.out, HB8.out⟩
      case rest =>
        clear OA OB NE HB HBD HBa hszw d1 d2
        obtain ⟨hA, hB, hne, hbc⟩ := hcut
        obtain ⟨a9, c9, rfl⟩ := own_lenH hA
        have HB := Kp.mk hbc
        have OA := Kp.mk hA
        have OB := Kp.mk hB
        have NE := Kp.mk hne
        clear hA hB hne hbc
        obtain ⟨⟨d1, d2⟩, -, -⟩ := HC8.out wc HB.out
        have y1 : a.2.size ≤ 300 := HSM.out.1.2
        have y3 : ¬ 9223372036854775807 < a.2.size + 2 := by omega
        have y4 : ¬ 9223372036854775807 < a.2.size + 2 + v.size := by omega
        go_upto_region 17 with fail
        have HBD := Kp.mk (HB.out.trans ((gdrew1 wc).mono HB.out.size))
        replace OA := Kp.mk (own_bel OA.out (gdrew1 wc))
        replace OB := Kp.mk (own_bel OB.out (gdrew1 wc))
        have HBa := Kp.mk (HBD.out.alloc HBD.out.size (.cells #[.string a.1, .string (a.2 ++ ⟨#[44, 32]⟩ ++ v)] 64))
        have hszw := HBD.out.size
        go_cut [10] (fun one wx => wx.ownsRow w.heap.size 64 2 one l.length (fvH T1) ∧ wx.ownsRow w.heap.size 64 2 (.slice a9 (l.length + 1) c9) (l.length + 1) (fvH T2) ∧ Below w.heap.size w wx)
        case first =>
          refine wp_region_held_drew (S := fun w' => w'.cell? ⟨b, o + k * 2, none⟩ = some (.string a.1) ∧ w'.cell? ⟨b, o + k * 2 + 1, none⟩ = some (.string a.2)) (by kernel_rfl) (show _ from ⟨d1, d2⟩) (fun hHeld => ?_)
          refine wpAnyH_take (i := 0) (oi := ⟨some 120, .move (.tmp 10), _, _, _, none⟩) (v := ?_) rfl (by kernel_rfl) (by kernel_rfl) (by kernel_rfl) (fun _ _ _ h => h) (Or.inl ⟨by rfl, ?_⟩) (by assumption) ?_
          rotate_left
          · intro w hSw
            try dsimp only at hSw
            go_simp
            try with_reducible rfl
          try simp only [Act.put, List.setIfInBounds_toArray, List.set_cons_zero, List.set_cons_succ]
          refine wpAnyH_take (i := 1) (oi := ⟨some 121, .move (.tmp 0), _, _, _, none⟩) (v := ?_) rfl (by kernel_rfl) (by kernel_rfl) (by kernel_rfl) (fun _ _ _ h => h) (Or.inl ⟨by rfl, ?_⟩) (by assumption) ?_
          rotate_left
          · intro w hSw
            try dsimp only at hSw
            go_simp
            try with_reducible rfl
          try simp only [Act.put, List.setIfInBounds_toArray, List.set_cons_zero, List.set_cons_succ]
          refine wpAnyH_take (i := 2) (oi := ⟨some 122, .move (.tmp 1), _, _, _, none⟩) (v := ?_) rfl (by kernel_rfl) (by kernel_rfl) (by kernel_rfl) (fun _ _ _ h => h) (Or.inl ⟨by rfl, ?_⟩) (by assumption) ?_
          rotate_left
          · intro w hSw
            try dsimp only at hSw
            go_simp
            try with_reducible rfl
          try simp only [Act.put, List.setIfInBounds_toArray, List.set_cons_zero, List.set_cons_succ]
          refine wpAnyH_take (i := 3) (oi := ⟨some 123, .indexAddr 22 (.tmp 121) (.tmp 122), _, _, _, none⟩) (v := ?_) rfl (by kernel_rfl) (by kernel_rfl) (by kernel_rfl) (fun _ _ _ h => h) (Or.inl ⟨by rfl, ?_⟩) (by assumption) ?_
          rotate_left
          · intro w hSw
            try dsimp only at hSw
            go_simp
            try with_reducible rfl
          try simp only [Act.put, List.setIfInBounds_toArray, List.set_cons_zero, List.set_cons_succ]
          refine wpAnyH_take (i := 4) (oi := ⟨some 124, .fieldAddr 64 (.tmp 123) 0, _, _, _, none⟩) (v := ?_) rfl (by kernel_rfl) (by kernel_rfl) (by kernel_rfl) (fun _ _ _ h => h) (Or.inl ⟨by rfl, ?_⟩) (by assumption) ?_
          rotate_left
          · intro w hSw
            try dsimp only at hSw
            go_simp
            try with_reducible rfl
          try simp only [Act.put, List.setIfInBounds_toArray, List.set_cons_zero, List.set_cons_succ]
          refine wpAnyH_take (i := 5) (oi := ⟨some 125, .load 9 (.tmp 124), _, _, _, none⟩) (v := ?_) rfl (by kernel_rfl) (by kernel_rfl) (by kernel_rfl) (fun _ _ _ h => h) (Or.inl ⟨by rfl, ?_⟩) (by assumption) ?_
          rotate_left
          · intro w hSw
            try dsimp only at hSw
            go_simp
            try with_reducible rfl
          try simp only [Act.put, List.setIfInBounds_toArray, List.set_cons_zero, List.set_cons_succ]
          refine wpAnyH_take (i := 6) (oi := ⟨some 126, .move (.tmp 0), _, _, _, none⟩) (v := ?_) rfl (by kernel_rfl) (by kernel_rfl) (by kernel_rfl) (fun _ _ _ h => h) (Or.inl ⟨by rfl, ?_⟩) (by assumption) ?_
          rotate_left
          · intro w hSw
            try dsimp only at hSw
            go_simp
            try with_reducible rfl
          try simp only [Act.put, List.setIfInBounds_toArray, List.set_cons_zero, List.set_cons_succ]
          refine wpAnyH_take (i := 7) (oi := ⟨some 127, .move (.tmp 1), _, _, _, none⟩) (v := ?_) rfl (by kernel_rfl) (by kernel_rfl) (by kernel_rfl) (fun _ _ _ h => h) (Or.inl ⟨by rfl, ?_⟩) (by assumption) ?_
          rotate_left
          · intro w hSw
            try dsimp only at hSw
            go_simp
            try with_reducible rfl
          try simp only [Act.put, List.setIfInBounds_toArray, List.set_cons_zero, List.set_cons_succ]
          refine wpAnyH_take (i := 8) (oi := ⟨some 128, .indexAddr 22 (.tmp 126) (.tmp 127), _, _, _, none⟩) (v := ?_) rfl (by kernel_rfl) (by kernel_rfl) (by kernel_rfl) (fun _ _ _ h => h) (Or.inl ⟨by rfl, ?_⟩) (by assumption) ?_
          rotate_left
          · intro w hSw
            try dsimp only at hSw
            go_simp
            try with_reducible rfl
          try simp only [Act.put, List.setIfInBounds_toArray, List.set_cons_zero, List.set_cons_succ]
          refine wpAnyH_take (i := 9) (oi := ⟨some 129, .fieldAddr 64 (.tmp 128) 1, _, _, _, none⟩) (v := ?_) rfl (by kernel_rfl) (by kernel_rfl) (by kernel_rfl) (fun _ _ _ h => h) (Or.inl ⟨by rfl, ?_⟩) (by assumption) ?_
          rotate_left
          · intro w hSw
            try dsimp only at hSw
            go_simp
            try with_reducible rfl
          try simp only [Act.put, List.setIfInBounds_toArray, List.set_cons_zero, List.set_cons_succ]
          refine wpAnyH_take (i := 10) (oi := ⟨some 130, .load 9 (.tmp 129), _, _, _, none⟩) (v := ?_) rfl (by kernel_rfl) (by kernel_rfl) (by kernel_rfl) (fun _ _ _ h => h) (Or.inl ⟨by rfl, ?_⟩) (by assumption) ?_
          rotate_left
          · intro w hSw
            try dsimp only at hSw
            go_simp
            try with_reducible rfl
          try simp only [Act.put, List.setIfInBounds_toArray, List.set_cons_zero, List.set_cons_succ]
          refine wpAnyH_take (i := 11) (oi := ⟨some 131, .binOp .add 9 (.tmp 130) (.const (.string ⟨#[44, 32]⟩)) 9, _, _, _, none⟩) (v := ?_) rfl (by kernel_rfl) (by kernel_rfl) (by kernel_rfl) (fun _ _ _ h => h) (Or.inl ⟨by rfl, ?_⟩) (by assumption) ?_
          rotate_left
          · intro w hSw
            try dsimp only at hSw
            go_simp
            try with_reducible rfl
          try simp only [Act.put, List.setIfInBounds_toArray, List.set_cons_zero, List.set_cons_succ]
          refine wpAnyH_take (i := 12) (oi := ⟨some 132, .move (.tmp 2), _, _, _, none⟩) (v := ?_) rfl (by kernel_rfl) (by kernel_rfl) (by kernel_rfl) (fun _ _ _ h => h) (Or.inl ⟨by rfl, ?_⟩) (by assumption) ?_
          rotate_left
          · intro w hSw
            try dsimp only at hSw
            go_simp
            try with_reducible rfl
          try simp only [Act.put, List.setIfInBounds_toArray, List.set_cons_zero, List.set_cons_succ]
          refine wpAnyH_take (i := 13) (oi := ⟨some 133, .binOp .add 9 (.tmp 131) (.tmp 132) 9, _, _, _, none⟩) (v := ?_) rfl (by kernel_rfl) (by kernel_rfl) (by kernel_rfl) (fun _ _ _ h => h) (Or.inl ⟨by rfl, ?_⟩) (by assumption) ?_
          rotate_left
          · intro w hSw
            try dsimp only at hSw
            go_simp
            try with_reducible rfl
          try simp only [Act.put, List.setIfInBounds_toArray, List.set_cons_zero, List.set_cons_succ]
          refine wpAnyH_take (i := 14) (oi := ⟨some 134, .build 64 #[(0, .tmp 125), (1, .tmp 133)], _, _, _, none⟩) (v := ?_) rfl (by kernel_rfl) (by kernel_rfl) (by kernel_rfl) (fun _ _ _ h => h) (Or.inl ⟨by rfl, ?_⟩) (by assumption) ?_
          rotate_left
          · intro w hSw
            try dsimp only at hSw
            go_simp
            try with_reducible rfl
          try simp only [Act.put, List.setIfInBounds_toArray, List.set_cons_zero, List.set_cons_succ]
          refine wpAnyH_take (i := 17) (oi := ⟨some 137, .move (.tmp 0), _, _, _, none⟩) (v := ?_) rfl (by kernel_rfl) (by kernel_rfl) (by kernel_rfl) (fun _ _ _ h => h) (Or.inl ⟨by rfl, ?_⟩) (by assumption) ?_
          rotate_left
          · intro w hSw
            try dsimp only at hSw
            go_simp
            try with_reducible rfl
          try simp only [Act.put, List.setIfInBounds_toArray, List.set_cons_zero, List.set_cons_succ]
          refine wpAnyH_take (i := 18) (oi := ⟨some 138, .move (.tmp 1), _, _, _, none⟩) (v := ?_) rfl (by kernel_rfl) (by kernel_rfl) (by kernel_rfl) (fun _ _ _ h => h) (Or.inl ⟨by rfl, ?_⟩) (by assumption) ?_
          rotate_left
          · intro w hSw
            try dsimp only at hSw
            go_simp
            try with_reducible rfl
          try simp only [Act.put, List.setIfInBounds_toArray, List.set_cons_zero, List.set_cons_succ]
          refine wpAnyH_take (i := 19) (oi := ⟨some 139, .binOp .add 3 (.tmp 138) (.const (.int .i64 1)) 3, _, _, _, none⟩) (v := ?_) rfl (by kernel_rfl) (by kernel_rfl) (by kernel_rfl) (fun _ _ _ h => h) (Or.inl ⟨by rfl, ?_⟩) (by assumption) ?_
          rotate_left
          · intro w hSw
            try dsimp only at hSw
            go_simp
            try with_reducible rfl
          try simp only [Act.put, List.setIfInBounds_toArray, List.set_cons_zero, List.set_cons_succ]
          refine wpAnyH_take (i := 20) (oi := ⟨some 140, .slice 22 (.tmp 137) (some (.tmp 139)) none none, _, _, _, none⟩) (v := ?_) rfl (by kernel_rfl) (by kernel_rfl) (by kernel_rfl) (fun _ _ _ h => h) (Or.inl ⟨by rfl, ?_⟩) (by assumption) ?_
          rotate_left
          · intro w hSw
            try dsimp only at hSw
            go_simp
            try with_reducible rfl
          try simp only [Act.put, List.setIfInBounds_toArray, List.set_cons_zero, List.set_cons_succ]
          refine wpAnyH_ready (rs := [15]) (by kernel_rfl) (by simp) ?_
          refine AllReadyH.cons (o := ⟨some 135, _, _, _, _, none⟩) rfl (fun K hK => ?_) AllReadyH.nil
          go_simp
          refine hK.out _ _ ((HC8.out _ HBa.out).1) (fun hHeld2 => ?_)
          clear hK K
          try simp only [Act.put, List.setIfInBounds_toArray, List.set_cons_zero, List.set_cons_succ]
          refine wpAnyH_ready (rs := [16]) (by kernel_rfl) (by simp) ?_
          refine AllReadyH.cons (o := ⟨some 136, _, _, _, _, none⟩) rfl (fun K hK => ?_) AllReadyH.nil
          apply oq_app_any (wr := wc.drew) (e := 64) (cs := #[.string a.1, .string (a.2 ++ ⟨#[44, 32]⟩ ++ v)]) (B := w.heap.size) (v := .slice a10 k c10) (hown := OB.out) (H := wc.heap.size) (hH := rfl) (hlen := z5) (hm := z6) (hB := hszw) (hi := Try.infoFH) (ht := Try.underlying22)
          all_goals (try (first | rfl | decide | (intro u hu; simp at hu; rcases hu with rfl | rfl <;> rfl)))
          intro g6 cap6 w6 h1 h2 h3
          have O6 := Kp.mk (show w6.ownsRow w.heap.size 64 2 (.slice (some ⟨g6, 0, none⟩) (k + 1) cap6) (k + 1) (X0 ++ [.string a.1, .string (a.2 ++ ⟨#[44, 32]⟩ ++ v)]) from h1)
          have NEo := NE
          replace NE := Kp.mk (ne_anyC (m := k + 1) (c := cap6) OA.out NE.out h3)
          replace OA := Kp.mk ((OA.out.alloc _).kept h2 (.inr NEo.out))
          have HB6 := Kp.mk (HBa.out.grown h2 HBa.out.size fun kk hk => (OB.out.lt kk hk).1)
          clear h1 h2 h3 NEo
          refine hK.out _ _ ((HC8.out _ HB6.out).1) (fun hHeld2 => ?_)
          clear hK K
          try simp only [Act.put, List.setIfInBounds_toArray, List.set_cons_zero, List.set_cons_succ]
          refine wpAnyH_ready (rs := [21]) (by kernel_rfl) (by simp) ?_
          refine AllReadyH.cons (o := ⟨some 141, _, _, _, _, none⟩) rfl (fun K hK => ?_) AllReadyH.nil
          apply oq_app_ownS (s := .tmp 136) (x := .tmp 140) (t := 22) (base := w.heap.size) (e := 64) (size := 2) (n := k + 1) (xs := X0 ++ [.string a.1, .string (a.2 ++ ⟨#[44, 32]⟩ ++ v)]) (hown := O6.out) (ad := ⟨b, o + (k + 1) * 2, none⟩) (m := l.length - (k + 1)) (c := c0 - (k + 1)) (news := XD) (hi := Try.infoFH) (ht := Try.underlying22) (hnews := HND.out _ HB6.out) (h1 := HUD.out) (h63 := z7) (hbytes := z8) (hbase := HB6.out.size) (hl := HLD.out)
          all_goals (try (first | rfl | decide))
          intro v8 w8 h1 h2 h3
          replace OA := Kp.mk (OA.out.kept h2 (.inr NE.out))
          have HB8 := Kp.mk (HB6.out.grown h2 HB6.out.size fun kk hk => (O6.out.lt kk hk).1)
          rw [HNB.out, HE3.out.1] at h1
          have O8 := Kp.mk h1
          clear h1 h2 h3
          refine hK.out _ _ ((HC8.out _ HB8.out).1) (fun hHeld2 => ?_)
          clear hK K
          try simp only [Act.put, List.setIfInBounds_toArray, List.set_cons_zero, List.set_cons_succ]
          refine wpAnyH_take (i := 22) (oi := ⟨some 10, .assign (.tmp 141), _, _, _, none⟩) (v := ?_) rfl (by kernel_rfl) (by kernel_rfl) (by kernel_rfl) (fun _ _ _ h => h) (Or.inl ⟨by rfl, ?_⟩) (by assumption) ?_
          rotate_left
          · intro w hSw
            try dsimp only at hSw
            go_simp
            try with_reducible rfl
          try simp only [Act.put, List.setIfInBounds_toArray, List.set_cons_zero, List.set_cons_succ]
          refine wpAnyH_done (by kernel_rfl) ?_ _
          go_wp2_with fail
          go_meet
          exact ⟨O8.out, OA.out, HB8.out⟩
        case rest =>
          clear OA OB NE HB HBD HBa hszw d1 d2
          obtain ⟨hB, hA, hbc⟩ := hcut
          obtain ⟨a10, c10, rfl⟩ := own_lenH hB
          have HB := Kp.mk hbc
          have R1 := Kp.mk (rdf_own (l := T1) (by rw [HE3.out.2]; exact hB))
          have R2 := Kp.mk (rdf_own (l := T2) (by rw [HE4.out.2]; exact hA))
          clear hA hB hbc
          go_wp2_with fail
          refine (CS3.out _ _ _ R1.out R2.out).mono ?_
          rintro e w18 ⟨rfl, hb⟩
          replace HB := Kp.mk (HB.out.trans (hb.mono HB.out.size))
          clear hb R1 R2 CS3
          go_wp2_with fail
          refine (lives50_any _).mono ?_
          rintro e wz ⟨rfl, hbz⟩
          go_wp2_with fail
          go_ret
          exact ⟨rfl, HB.out.trans (hbz.mono HB.out.size)⟩
theorem cstays_arg (v0 v1 v2 : Value) (w : World) (h0 : Arg Try.prog w 22 v0) (h1 : Arg Try.prog w 3 v1) (h2 : Arg Try.prog w 9 v2) :
    Calls Try.prog 7 #[v0, v1, v2] w fun e w' => e = .returned (.bool true) ∧ Below w.heap.size w w' := by
  obtain ⟨l, hl, hz⟩ := hlist_argB v0 w h0
  obtain ⟨m, rfl, _⟩ := h1.int Try.underlying3
  obtain ⟨s, rfl, hs⟩ := h2.str Try.underlying9
  exact cstays_walk v0 l m s w hl hz hs
end Go.Proofs.Ytocnecbhpofdgaa
