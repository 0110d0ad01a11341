/- By whom a message came (layer 20): Parse, the document's, of a right version. -/
import Derived.Test.YtkfpioadimkogaaGreatDoorVae
namespace Go.Proofs.YtkfpioadimkogaaGreatDoor
open Go.RowKit
set_option linter.unusedVariables false
set_option linter.unusedSimpArgs false

set_option maxRecDepth 100000 in
set_option maxHeartbeats 1000000 in
theorem rva_t (s : ByteArray) (w : World) (hs : s.size ≤ 900000) (h0 : 0 < s.size) (h1 : vaVer (vaV s) = true) (h2 : 0 < vaGap s) (h3 : tokenB (byB (vaL s)) = true) : Calls Tryz.prog 40 #[.string s] w (RetHp s w) := by
  obtain ⟨n1, n2⟩ := hs_nemp h0
  have HWO := Kp.mk (fun w => va_word_any s w (by omega))
  have HR0 := Kp.mk (Bl.new w 51 #[.string ⟨#[]⟩, .string ⟨#[]⟩, .string ⟨#[]⟩])
  have HB0 := Kp.mk ((Below.refl _ w).alloc (Nat.le_refl _) (.cells #[.string ⟨#[]⟩, .string ⟨#[]⟩, .string ⟨#[]⟩] 51))
  have hn := preN_le vaNB s
  have HV := Kp.mk (show s.extract 0 (preN vaNB s) = vaV s from rfl)
  have HF := Kp.mk (show s.extract (preN vaNB s) s.size = fromB s (preN vaNB s) from rfl)
  have HSK := Kp.mk (fun w => show Calls Tryz.prog 85 #[.string (fromB s (preN vaNB s))] w fun e w' => e = .returned (.int .i64 (vaGap s)) ∧ w = w' from ref_skip_any (fromB s (preN vaNB s)) w (by rw [fromB_size]; unfold maxLen; omega))
  have hgl : vaGap s ≤ (fromB s (preN vaNB s)).size := preN_le blankN _
  have HL := Kp.mk (show (fromB s (preN vaNB s)).extract (vaGap s) (fromB s (preN vaNB s)).size = vaL s from rfl)
  have hLz : (vaL s).size ≤ 900000 := by rw [vaL_eq, fromB_size]; omega
  have HVZ := Kp.mk (show (vaV s).size ≤ 900000 by unfold vaV; rw [upB_size]; omega)
  have HWL := Kp.mk (fun w => va_word_any (vaL s) w (by omega))
  have hml := preN_le vaNB (vaL s)
  have HBY := Kp.mk (show (vaL s).extract 0 (preN vaNB (vaL s)) = byB (vaL s) from rfl)
  have HTL := Kp.mk (show (vaL s).extract (preN vaNB (vaL s)) (vaL s).size = tlB (vaL s) from rfl)
  have hbz : (byB (vaL s)).size ≤ 900000 := by rw [byB_size]; omega
  have HPA := Kp.mk (fun w => rhs_parse_any (byB (vaL s)) w (by omega))
  have HD := Kp.mk (show hsRet (byB (vaL s)) = .tuple #[.string (hsN (byB (vaL s))), .int .i64 (hsP (byB (vaL s))), .int .i64 (hsE (byB (vaL s)))] from rfl)
  have HVE := Kp.mk (fun w => va_version_any (vaV s) w (by have := HVZ.out; omega))
  have HTO := Kp.mk (fun w => ref_token_any (byB (vaL s)) w (by unfold maxLen; omega))
  have htz : (tlB (vaL s)).size ≤ 900000 := by rw [tlB_size]; omega
  have HSK2 := Kp.mk (fun w => ref_skip_any (tlB (vaL s)) w (by unfold maxLen; omega))
  have hkl := preN_le blankN (tlB (vaL s))
  have HCM := Kp.mk (show (tlB (vaL s)).extract (preN blankN (tlB (vaL s))) (tlB (vaL s)).size = cmB (vaL s) from rfl)
  have hcz : (cmB (vaL s)).size ≤ 900000 := by unfold cmB; rw [fromB_size]; omega
  have hpl : vaPl (byB (vaL s)) = true := by unfold vaPl; rw [h3]; rfl
  have HRS := Kp.mk (show rsB (vaL s) = (decide ((tlB (vaL s)).size = 0) || cloB (cmB (vaL s))) by unfold rsB; rw [hpl, Bool.true_and])
  have HGD := Kp.mk (fun h : rsB (vaL s) = true => va_good h0 (show vaOk1 s = true by unfold vaOk1; rw [h1, decide_eq_true h2]; rfl) h)
  have HBD := Kp.mk (fun h : rsB (vaL s) = false => va_bad2 h0 h)
  have HCE := Kp.mk (fun h : (tlB (vaL s)).size = 0 => cm_none h)
  rw [h1] at HVE
  rw [h3] at HTO
  have HG0 := Kp.mk (show ((vaGap s : Int) == 0) = false from eq_false_of (by omega))
  clear h1 h2 h3 hpl
  generalize hsN (byB (vaL s)) = HN at *
  generalize hsP (byB (vaL s)) = HP at *
  generalize hsE (byB (vaL s)) = HE at *
  generalize cmB (vaL s) = CM at *
  generalize preN blankN (tlB (vaL s)) = K at *
  generalize tlB (vaL s) = T at *
  generalize byB (vaL s) = B at *
  generalize preN vaNB (vaL s) = m at *
  generalize vaL s = L at *
  generalize vaGap s = G at *
  generalize preN vaNB s = n at *
  generalize fromB s n = X at *
  have j1 : (0 : Int) ≤ (n : Int) := by omega
  have j2 : (n : Int) ≤ (s.size : Int) := by omega
  have j3 : (0 : Int) ≤ (G : Int) := by omega
  have j4 : (G : Int) ≤ (X.size : Int) := by omega
  have j5 : (0 : Int) ≤ (m : Int) := by omega
  have j6 : (m : Int) ≤ (L.size : Int) := by omega
  have j7 : (0 : Int) ≤ (K : Int) := by omega
  have j8 : (K : Int) ≤ (T.size : Int) := by omega
  go_enter Tryz.func40, Tryz.ntmps40
  go_wp2_with fail
  refine (HWO.out _).mono ?_
  rintro e w1 ⟨rfl, rfl⟩
  go_upto_region 4 with fail
  go_cut [5, 6] (fun u5 u6 wx => u5 = .pointer (some ⟨w.heap.size + 1, 0, none⟩) ∧ u6 = .string X ∧ RvW (vaV s) ⟨#[]⟩ ⟨#[]⟩ w wx)
  case first =>
    go_region
    all_goals
      go_wp2_with fail
      go_meet
      have hv := HV.out
      have hf := HF.out
      generalize s.extract 0 n = Y1 at hv ⊢
      generalize s.extract n s.size = Y2 at hf ⊢
      subst hv
      subst hf
      exact ⟨rfl, rfl, (RvW.new _ w _ HR0.out HB0.out (by simp)).below ((Below.refl _ _).drew)⟩
  case rest =>
    obtain ⟨rfl, rfl, hr⟩ := hcut
    have R4 := Kp.mk hr
    clear hr j1 j2
    go_wp2_with fail
    refine (HSK.out _).mono ?_
    rintro e w4 ⟨rfl, rfl⟩
    go_wp2_with fail
    rw [HL.out]
    refine (HWL.out _).mono ?_
    rintro e w5 ⟨rfl, rfl⟩
    obtain ⟨-, c1, -, -, f1, -, hl⟩ := vares R4.out.hop
    have R5 := Kp.mk (R4.out.set1 B)
    go_wp2_with fail
    rw [HBY.out]
    obtain ⟨wq, hwq⟩ : ∃ wq, wq = wc.setCell ⟨w.heap.size + 1, 1, none⟩ (.string B) := ⟨_, rfl⟩
    rw [← hwq] at R5 ⊢
    clear hwq c1 f1 hl
    obtain ⟨c0, c1, c2, -, -, f2, hl⟩ := vares R5.out.hop
    go_wp2_with fail
    rw [HTL.out]
    refine (HPA.out _).mono ?_
    rintro e w6 ⟨rfl, hb⟩
    rw [HD.out]
    have R6 := Kp.mk (R5.out.below hb)
    clear hb c0 c1 c2 f2 hl
    obtain ⟨c0, c1, c2, -, -, f2, hl⟩ := vares R6.out.hop
    go_wp2_with fail
    refine (HVE.out _).mono ?_
    rintro e w7 ⟨rfl, hb⟩
    have R7 := Kp.mk (R6.out.below hb)
    clear hb c0 c1 c2 f2 hl
    obtain ⟨c0, c1, c2, -, -, f2, hl⟩ := vares R7.out.hop
    have hg0 := HG0.out
    go_wp2_with fail
    refine (HTO.out _).mono ?_
    rintro e w8 ⟨rfl, rfl⟩
    have n0 : (w.heap.size + 1 = w.heap.size) = False := by simp
    by_cases ht0 : 0 < T.size
    · obtain ⟨t1, t2⟩ := hs_nemp ht0
      go_wp2_with fail
      refine (HSK2.out _).mono ?_
      rintro e w9 ⟨rfl, rfl⟩
      go_upto_region 16 with fail
      rw [HCM.out]
      by_cases hc0 : 0 < CM.size
      · obtain ⟨k1, k2⟩ := hs_nemp hc0
        have hx := bt_at CM 0 hc0
        have k3 : (0 : Int) < (CM.size : Int) := by omega
        by_cases h40 : bt CM 0 = 40
        · have HBH := Kp.mk (fun w => va_behind_any CM w (by omega) hc0 h40)
          unfold BhT at HBH
          have hx2 : ((bt CM 0 : Int) != 40) = false := by rw [h40]; rfl
          cases hcl : cloB CM
          · have HR := Kp.mk (HBD.out (show rsB L = false by rw [HRS.out, hcl, decide_eq_false (by omega), Bool.false_or]))
            rw [hcl] at HBH
            clear hcl h40
            go_wp2_with fail
            refine (HBH.out _).mono ?_
            rintro e w10 ⟨j, rfl, hj, rfl⟩
            have hj2 : (j != (CM.size : Int)) = true := by unfold bne; rw [hj]; rfl
            obtain ⟨r0, r1, r2, g0, g1, g2, hr⟩ := vares R7.out.res
            go_wp2_with fail
            exact bodyPost_ret (v := .tuple #[.agg #[.string ⟨#[]⟩, .string ⟨#[]⟩, .string ⟨#[]⟩], .int .i64 3]) (by simp [results, Tryz.results40, go_sem, r0, r1, r2, hr]) rfl ⟨by rw [HR.out.1, HR.out.2] <;> rfl, vabel3 R7.out.bel (Nat.le_refl _) _ _ _⟩
          · have HR := Kp.mk (HGD.out (show rsB L = true by rw [HRS.out, hcl, Bool.or_true]))
            rw [hcl] at HBH
            clear hcl h40
            go_wp2_with fail
            refine (HBH.out _).mono ?_
            rintro e w10 ⟨j, rfl, hj, rfl⟩
            have hj2 : (j != (CM.size : Int)) = false := by unfold bne; rw [hj]; rfl
            have R8 := Kp.mk (R7.out.set2 CM)
            obtain ⟨r0, r1, r2, g0, g1, g2, hr⟩ := vares R7.out.res
            go_wp2_with fail
            generalize vaV s = VV at *
            exact bodyPost_ret (v := .tuple #[.agg #[.string VV, .string B, .string CM], .int .i64 0]) (by simp [results, Tryz.results40, go_sem, r0, r1, r2, hr]) rfl ⟨by rw [HR.out.1, HR.out.2] <;> rfl, vabel3 R8.out.bel (Nat.le_refl _) _ _ _⟩
        · have HR := Kp.mk (HBD.out (show rsB L = false by rw [HRS.out, cloB_no (fun q => h40 q.2), decide_eq_false (by omega), Bool.false_or]))
          have hx2 : ((bt CM 0 : Int) != 40) = true := by rw [bne_iff_ne]; omega
          clear h40
          obtain ⟨r0, r1, r2, g0, g1, g2, hr⟩ := vares R7.out.res
          go_wp2_with fail
          exact bodyPost_ret (v := .tuple #[.agg #[.string ⟨#[]⟩, .string ⟨#[]⟩, .string ⟨#[]⟩], .int .i64 3]) (by simp [results, Tryz.results40, go_sem, r0, r1, r2, hr]) rfl ⟨by rw [HR.out.1, HR.out.2] <;> rfl, vabel3 R7.out.bel (Nat.le_refl _) _ _ _⟩
      · obtain rfl := hs_emp hc0
        have HR := Kp.mk (HBD.out (show rsB L = false by rw [HRS.out, cloB_no (fun q => hc0 q.1), decide_eq_false (by omega), Bool.false_or]))
        clear hc0
        obtain ⟨r0, r1, r2, g0, g1, g2, hr⟩ := vares R7.out.res
        go_wp2_with fail
        exact bodyPost_ret (v := .tuple #[.agg #[.string ⟨#[]⟩, .string ⟨#[]⟩, .string ⟨#[]⟩], .int .i64 3]) (by simp [results, Tryz.results40, go_sem, r0, r1, r2, hr]) rfl ⟨by rw [HR.out.1, HR.out.2] <;> rfl, vabel3 R7.out.bel (Nat.le_refl _) _ _ _⟩
    · obtain rfl := hs_emp ht0
      have HR := Kp.mk (HGD.out (show rsB L = true by rw [HRS.out, show decide ((⟨#[]⟩ : ByteArray).size = 0) = true from rfl, Bool.true_or]))
      have HC0 := Kp.mk (HCE.out rfl)
      clear ht0
      obtain ⟨r0, r1, r2, g0, g1, g2, hr⟩ := vares R7.out.res
      go_wp2_with fail
      generalize vaV s = VV at *
      exact bodyPost_ret (v := .tuple #[.agg #[.string VV, .string B, .string ⟨#[]⟩], .int .i64 0]) (by simp [results, Tryz.results40, go_sem, r0, r1, r2, hr]) rfl ⟨by rw [HR.out.1, HR.out.2, HC0.out] <;> rfl, vabel3 R7.out.bel (Nat.le_refl _) _ _ _⟩
set_option maxRecDepth 100000 in
set_option maxHeartbeats 1000000 in
theorem rva_h (s : ByteArray) (w : World) (hs : s.size ≤ 900000) (h0 : 0 < s.size) (h1 : vaVer (vaV s) = true) (h2 : 0 < vaGap s) (h3 : tokenB (byB (vaL s)) = false) (h4 : hsE (byB (vaL s)) = 0) : Calls Tryz.prog 40 #[.string s] w (RetHp s w) := by
  obtain ⟨n1, n2⟩ := hs_nemp h0
  have HWO := Kp.mk (fun w => va_word_any s w (by omega))
  have HR0 := Kp.mk (Bl.new w 51 #[.string ⟨#[]⟩, .string ⟨#[]⟩, .string ⟨#[]⟩])
  have HB0 := Kp.mk ((Below.refl _ w).alloc (Nat.le_refl _) (.cells #[.string ⟨#[]⟩, .string ⟨#[]⟩, .string ⟨#[]⟩] 51))
  have hn := preN_le vaNB s
  have HV := Kp.mk (show s.extract 0 (preN vaNB s) = vaV s from rfl)
  have HF := Kp.mk (show s.extract (preN vaNB s) s.size = fromB s (preN vaNB s) from rfl)
  have HSK := Kp.mk (fun w => show Calls Tryz.prog 85 #[.string (fromB s (preN vaNB s))] w fun e w' => e = .returned (.int .i64 (vaGap s)) ∧ w = w' from ref_skip_any (fromB s (preN vaNB s)) w (by rw [fromB_size]; unfold maxLen; omega))
  have hgl : vaGap s ≤ (fromB s (preN vaNB s)).size := preN_le blankN _
  have HL := Kp.mk (show (fromB s (preN vaNB s)).extract (vaGap s) (fromB s (preN vaNB s)).size = vaL s from rfl)
  have hLz : (vaL s).size ≤ 900000 := by rw [vaL_eq, fromB_size]; omega
  have HVZ := Kp.mk (show (vaV s).size ≤ 900000 by unfold vaV; rw [upB_size]; omega)
  have HWL := Kp.mk (fun w => va_word_any (vaL s) w (by omega))
  have hml := preN_le vaNB (vaL s)
  have HBY := Kp.mk (show (vaL s).extract 0 (preN vaNB (vaL s)) = byB (vaL s) from rfl)
  have HTL := Kp.mk (show (vaL s).extract (preN vaNB (vaL s)) (vaL s).size = tlB (vaL s) from rfl)
  have hbz : (byB (vaL s)).size ≤ 900000 := by rw [byB_size]; omega
  have HPA := Kp.mk (fun w => rhs_parse_any (byB (vaL s)) w (by omega))
  have HD := Kp.mk (show hsRet (byB (vaL s)) = .tuple #[.string (hsN (byB (vaL s))), .int .i64 (hsP (byB (vaL s))), .int .i64 (hsE (byB (vaL s)))] from rfl)
  have HVE := Kp.mk (fun w => va_version_any (vaV s) w (by have := HVZ.out; omega))
  have HTO := Kp.mk (fun w => ref_token_any (byB (vaL s)) w (by unfold maxLen; omega))
  have htz : (tlB (vaL s)).size ≤ 900000 := by rw [tlB_size]; omega
  have HSK2 := Kp.mk (fun w => ref_skip_any (tlB (vaL s)) w (by unfold maxLen; omega))
  have hkl := preN_le blankN (tlB (vaL s))
  have HCM := Kp.mk (show (tlB (vaL s)).extract (preN blankN (tlB (vaL s))) (tlB (vaL s)).size = cmB (vaL s) from rfl)
  have hcz : (cmB (vaL s)).size ≤ 900000 := by unfold cmB; rw [fromB_size]; omega
  have hpl : vaPl (byB (vaL s)) = true := by unfold vaPl; rw [h3, h4]; rfl
  have HRS := Kp.mk (show rsB (vaL s) = (decide ((tlB (vaL s)).size = 0) || cloB (cmB (vaL s))) by unfold rsB; rw [hpl, Bool.true_and])
  have HGD := Kp.mk (fun h : rsB (vaL s) = true => va_good h0 (show vaOk1 s = true by unfold vaOk1; rw [h1, decide_eq_true h2]; rfl) h)
  have HBD := Kp.mk (fun h : rsB (vaL s) = false => va_bad2 h0 h)
  have HCE := Kp.mk (fun h : (tlB (vaL s)).size = 0 => cm_none h)
  rw [h1] at HVE
  rw [h3] at HTO
  have HG0 := Kp.mk (show ((vaGap s : Int) == 0) = false from eq_false_of (by omega))
  have HE4 := Kp.mk (show (hsE (byB (vaL s)) != 0) = false by rw [h4]; rfl)
  clear h1 h2 h3 h4 hpl
  generalize hsN (byB (vaL s)) = HN at *
  generalize hsP (byB (vaL s)) = HP at *
  generalize hsE (byB (vaL s)) = HE at *
  generalize cmB (vaL s) = CM at *
  generalize preN blankN (tlB (vaL s)) = K at *
  generalize tlB (vaL s) = T at *
  generalize byB (vaL s) = B at *
  generalize preN vaNB (vaL s) = m at *
  generalize vaL s = L at *
  generalize vaGap s = G at *
  generalize preN vaNB s = n at *
  generalize fromB s n = X at *
  have j1 : (0 : Int) ≤ (n : Int) := by omega
  have j2 : (n : Int) ≤ (s.size : Int) := by omega
  have j3 : (0 : Int) ≤ (G : Int) := by omega
  have j4 : (G : Int) ≤ (X.size : Int) := by omega
  have j5 : (0 : Int) ≤ (m : Int) := by omega
  have j6 : (m : Int) ≤ (L.size : Int) := by omega
  have j7 : (0 : Int) ≤ (K : Int) := by omega
  have j8 : (K : Int) ≤ (T.size : Int) := by omega
  go_enter Tryz.func40, Tryz.ntmps40
  go_wp2_with fail
  refine (HWO.out _).mono ?_
  rintro e w1 ⟨rfl, rfl⟩
  go_upto_region 4 with fail
  go_cut [5, 6] (fun u5 u6 wx => u5 = .pointer (some ⟨w.heap.size + 1, 0, none⟩) ∧ u6 = .string X ∧ RvW (vaV s) ⟨#[]⟩ ⟨#[]⟩ w wx)
  case first =>
    go_region
    all_goals
      go_wp2_with fail
      go_meet
      have hv := HV.out
      have hf := HF.out
      generalize s.extract 0 n = Y1 at hv ⊢
      generalize s.extract n s.size = Y2 at hf ⊢
      subst hv
      subst hf
      exact ⟨rfl, rfl, (RvW.new _ w _ HR0.out HB0.out (by simp)).below ((Below.refl _ _).drew)⟩
  case rest =>
    obtain ⟨rfl, rfl, hr⟩ := hcut
    have R4 := Kp.mk hr
    clear hr j1 j2
    go_wp2_with fail
    refine (HSK.out _).mono ?_
    rintro e w4 ⟨rfl, rfl⟩
    go_wp2_with fail
    rw [HL.out]
    refine (HWL.out _).mono ?_
    rintro e w5 ⟨rfl, rfl⟩
    obtain ⟨-, c1, -, -, f1, -, hl⟩ := vares R4.out.hop
    have R5 := Kp.mk (R4.out.set1 B)
    go_wp2_with fail
    rw [HBY.out]
    obtain ⟨wq, hwq⟩ : ∃ wq, wq = wc.setCell ⟨w.heap.size + 1, 1, none⟩ (.string B) := ⟨_, rfl⟩
    rw [← hwq] at R5 ⊢
    clear hwq c1 f1 hl
    obtain ⟨c0, c1, c2, -, -, f2, hl⟩ := vares R5.out.hop
    go_wp2_with fail
    rw [HTL.out]
    refine (HPA.out _).mono ?_
    rintro e w6 ⟨rfl, hb⟩
    rw [HD.out]
    have R6 := Kp.mk (R5.out.below hb)
    clear hb c0 c1 c2 f2 hl
    obtain ⟨c0, c1, c2, -, -, f2, hl⟩ := vares R6.out.hop
    go_wp2_with fail
    refine (HVE.out _).mono ?_
    rintro e w7 ⟨rfl, hb⟩
    have R7 := Kp.mk (R6.out.below hb)
    clear hb c0 c1 c2 f2 hl
    obtain ⟨c0, c1, c2, -, -, f2, hl⟩ := vares R7.out.hop
    have hg0 := HG0.out
    have he4 := HE4.out
    go_wp2_with fail
    refine (HTO.out _).mono ?_
    rintro e w8 ⟨rfl, rfl⟩
    have n0 : (w.heap.size + 1 = w.heap.size) = False := by simp
    by_cases ht0 : 0 < T.size
    · obtain ⟨t1, t2⟩ := hs_nemp ht0
      go_wp2_with fail
      refine (HSK2.out _).mono ?_
      rintro e w9 ⟨rfl, rfl⟩
      go_upto_region 16 with fail
      rw [HCM.out]
      by_cases hc0 : 0 < CM.size
      · obtain ⟨k1, k2⟩ := hs_nemp hc0
        have hx := bt_at CM 0 hc0
        have k3 : (0 : Int) < (CM.size : Int) := by omega
        by_cases h40 : bt CM 0 = 40
        · have HBH := Kp.mk (fun w => va_behind_any CM w (by omega) hc0 h40)
          unfold BhT at HBH
          have hx2 : ((bt CM 0 : Int) != 40) = false := by rw [h40]; rfl
          cases hcl : cloB CM
          · have HR := Kp.mk (HBD.out (show rsB L = false by rw [HRS.out, hcl, decide_eq_false (by omega), Bool.false_or]))
            rw [hcl] at HBH
            clear hcl h40
            go_wp2_with fail
            refine (HBH.out _).mono ?_
            rintro e w10 ⟨j, rfl, hj, rfl⟩
            have hj2 : (j != (CM.size : Int)) = true := by unfold bne; rw [hj]; rfl
            obtain ⟨r0, r1, r2, g0, g1, g2, hr⟩ := vares R7.out.res
            go_wp2_with fail
            exact bodyPost_ret (v := .tuple #[.agg #[.string ⟨#[]⟩, .string ⟨#[]⟩, .string ⟨#[]⟩], .int .i64 3]) (by simp [results, Tryz.results40, go_sem, r0, r1, r2, hr]) rfl ⟨by rw [HR.out.1, HR.out.2] <;> rfl, vabel3 R7.out.bel (Nat.le_refl _) _ _ _⟩
          · have HR := Kp.mk (HGD.out (show rsB L = true by rw [HRS.out, hcl, Bool.or_true]))
            rw [hcl] at HBH
            clear hcl h40
            go_wp2_with fail
            refine (HBH.out _).mono ?_
            rintro e w10 ⟨j, rfl, hj, rfl⟩
            have hj2 : (j != (CM.size : Int)) = false := by unfold bne; rw [hj]; rfl
            have R8 := Kp.mk (R7.out.set2 CM)
            obtain ⟨r0, r1, r2, g0, g1, g2, hr⟩ := vares R7.out.res
            go_wp2_with fail
            generalize vaV s = VV at *
            exact bodyPost_ret (v := .tuple #[.agg #[.string VV, .string B, .string CM], .int .i64 0]) (by simp [results, Tryz.results40, go_sem, r0, r1, r2, hr]) rfl ⟨by rw [HR.out.1, HR.out.2] <;> rfl, vabel3 R8.out.bel (Nat.le_refl _) _ _ _⟩
        · have HR := Kp.mk (HBD.out (show rsB L = false by rw [HRS.out, cloB_no (fun q => h40 q.2), decide_eq_false (by omega), Bool.false_or]))
          have hx2 : ((bt CM 0 : Int) != 40) = true := by rw [bne_iff_ne]; omega
          clear h40
          obtain ⟨r0, r1, r2, g0, g1, g2, hr⟩ := vares R7.out.res
          go_wp2_with fail
          exact bodyPost_ret (v := .tuple #[.agg #[.string ⟨#[]⟩, .string ⟨#[]⟩, .string ⟨#[]⟩], .int .i64 3]) (by simp [results, Tryz.results40, go_sem, r0, r1, r2, hr]) rfl ⟨by rw [HR.out.1, HR.out.2] <;> rfl, vabel3 R7.out.bel (Nat.le_refl _) _ _ _⟩
      · obtain rfl := hs_emp hc0
        have HR := Kp.mk (HBD.out (show rsB L = false by rw [HRS.out, cloB_no (fun q => hc0 q.1), decide_eq_false (by omega), Bool.false_or]))
        clear hc0
        obtain ⟨r0, r1, r2, g0, g1, g2, hr⟩ := vares R7.out.res
        go_wp2_with fail
        exact bodyPost_ret (v := .tuple #[.agg #[.string ⟨#[]⟩, .string ⟨#[]⟩, .string ⟨#[]⟩], .int .i64 3]) (by simp [results, Tryz.results40, go_sem, r0, r1, r2, hr]) rfl ⟨by rw [HR.out.1, HR.out.2] <;> rfl, vabel3 R7.out.bel (Nat.le_refl _) _ _ _⟩
    · obtain rfl := hs_emp ht0
      have HR := Kp.mk (HGD.out (show rsB L = true by rw [HRS.out, show decide ((⟨#[]⟩ : ByteArray).size = 0) = true from rfl, Bool.true_or]))
      have HC0 := Kp.mk (HCE.out rfl)
      clear ht0
      obtain ⟨r0, r1, r2, g0, g1, g2, hr⟩ := vares R7.out.res
      go_wp2_with fail
      generalize vaV s = VV at *
      exact bodyPost_ret (v := .tuple #[.agg #[.string VV, .string B, .string ⟨#[]⟩], .int .i64 0]) (by simp [results, Tryz.results40, go_sem, r0, r1, r2, hr]) rfl ⟨by rw [HR.out.1, HR.out.2, HC0.out] <;> rfl, vabel3 R7.out.bel (Nat.le_refl _) _ _ _⟩
theorem rva_parse_any (s : ByteArray) (w : World) (hs : s.size ≤ 900000) : Calls Tryz.prog 40 #[.string s] w (RetHp s w) := by
  by_cases h0 : 0 < s.size
  · cases h1 : vaVer (vaV s)
    · exact rva_e1 s w hs h0 h1
    · by_cases h2 : 0 < vaGap s
      · cases h3 : tokenB (byB (vaL s))
        · by_cases h4 : hsE (byB (vaL s)) = 0
          · exact rva_h s w hs h0 h1 h2 h3 h4
          · exact rva_e3 s w hs h0 h1 h2 h3 h4
        · exact rva_t s w hs h0 h1 h2 h3
      · exact rva_e2 s w hs h0 h1 (by omega)
  · obtain rfl := hs_emp h0
    have HR := Kp.mk (show vaR ⟨#[]⟩ = (⟨#[]⟩, ⟨#[]⟩, ⟨#[]⟩) ∧ vaE ⟨#[]⟩ = 2 from ⟨rfl, rfl⟩)
    go_enter Tryz.func40, Tryz.ntmps40
    go_wp2_with fail
    exact bodyPost_ret (v := .tuple #[.agg #[.string ⟨#[]⟩, .string ⟨#[]⟩, .string ⟨#[]⟩], .int .i64 2]) (by simp [results, Tryz.results40, go_sem]) rfl ⟨by rw [HR.out.1, HR.out.2] <;> rfl, (Below.refl _ _).alloc (Nat.le_refl _) _⟩
end Go.Proofs.YtkfpioadimkogaaGreatDoor
