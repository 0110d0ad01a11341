/- What is said to caches (layer 21): a directive, the document's. · What is said to caches (layer 21): directives, as plain functions; Parse, the document's. -/
import Derived.Test.YtgamekfickheaaaGreatCcy
import Derived.Test.YtgamekfickheaaaGreatPrf
import Derived.Test.YtgamekfickheaaaGreatKeeps
import Derived.Test.YtgamekfickheaaaGreatLsh
namespace Go.Proofs.YtgamekfickheaaaGreat
open Go.RowKit
set_option linter.unusedVariables false
set_option linter.unusedSimpArgs false

def OnePostD (s : ByteArray) (w : World) (e : Ending) (w' : World) : Prop :=
  ∃ (nm vl : ByteArray) (st : Bool), e = .returned (.tuple #[.agg #[.string nm, .string vl, .bool st], .bool (okD s)]) ∧ (okD s = true → nm = nmD s ∧ vl = vlD s ∧ st = setD s) ∧ Below w.heap.size w w'
theorem dK_le (s : ByteArray) : dK s ≤ s.size - (dN s + 1) := by
  have h : dK s ≤ (fromB s (dN s + 1)).size := preN_le _ _
  rw [fromB_size] at h
  exact h
theorem dN_le (s : ByteArray) : dN s ≤ s.size := preN_le _ _
theorem setD_no {s : ByteArray} (h : ¬ (dN s < s.size ∧ bt s (dN s) = 61)) : setD s = false := by
  unfold setD
  rw [Bool.and_eq_false_iff, decide_eq_false_iff_not, beq_eq_false_iff_ne]
  by_cases h1 : dN s < s.size
  · exact .inr (fun h2 => h ⟨h1, h2⟩)
  · exact .inl h1
theorem okD_plain {s : ByteArray} (h : setD s = false) : okD s = (decide (0 < dN s) && decide (s.size - dN s = 0)) ∧ vlD s = ⟨#[]⟩ := by
  unfold okD enD vlD
  rw [h]
  simp [fromB_size]
theorem okD_set {s : ByteArray} (h : setD s = true) (hn : 0 < dN s) : okD s = if 0 < dK s then decide (dK s = s.size - (dN s + 1)) else (decide (0 < dQ s) && decide (s.size - (dN s + 1 + dQ s) = 0)) := by
  have hk := dK_le s
  unfold okD enD
  rw [h, decide_eq_true hn]
  by_cases h0 : 0 < dK s
  · rw [if_pos h0, decide_eq_true h0]
    simp only [fromB_size, Bool.not_true, Bool.true_or, Bool.or_true, Bool.false_or, Bool.true_and, if_true, Bool.true_and]
    rw [if_pos h0]
    congr 1
    rw [eq_iff_iff]
    omega
  · rw [if_neg h0, decide_eq_false h0]
    simp only [fromB_size, Bool.not_true, Bool.false_or, Bool.true_and, if_true]
    rw [if_neg h0]
theorem vlD_set {s : ByteArray} (h : setD s = true) : vlD s = if 0 < dK s then upB (fromB s (dN s + 1)) (dK s) else quotedS (fromB s (dN s + 1)) := by unfold vlD; rw [h]; rfl
set_option maxRecDepth 100000 in
set_option maxHeartbeats 4000000 in
theorem rone21_any (s : ByteArray) (w : World) (hs : s.size ≤ 1000000) :
    Calls Tryz.prog 119 #[.string s] w (OnePostD s w) := by
  have hnl := dN_le s
  have HTK := Kp.mk (show (preN tcharB s : Nat) = dN s from rfl)
  have hup : (upB s (dN s)).size ≤ 1000000 := by rw [upB_size]; omega
  have HNM := Kp.mk (show nmD s = lowB (upB s (dN s)) from rfl)
  have HR0 := Kp.mk (Bl.new w 57 #[.string ⟨#[]⟩, .string ⟨#[]⟩, .bool false])
  have HB0 := Kp.mk ((Below.refl w.heap.size w).alloc (Nat.le_refl _) (.cells #[.string ⟨#[]⟩, .string ⟨#[]⟩, .bool false] 57))
  go_enter Tryz.func119, Tryz.ntmps119
  go_wp2_with fail
  refine (ref_token4_any _ _ (by unfold maxLen; omega)).mono ?_
  rintro e w1 ⟨rfl, rfl⟩
  rw [HTK.out]
  go_wp2_with fail
  simp only [ext_up]
  refine (ref_lower_any _ _ (by omega)).mono ?_
  rintro e w2 ⟨rfl, hb2⟩
  have HR2 := Kp.mk (HR0.out.below hb2)
  have HB2 := Kp.mk (HB0.out.trans (hb2.mono HB0.out.size))
  have hz2 := HB2.out.size
  clear hb2
  have hz3 : w.heap.size < w2.heap.size := HR2.out.lt
  obtain ⟨nm, hnm⟩ : ∃ nm, nm = lowB (upB s (dN s)) := ⟨_, rfl⟩
  have HNE := Kp.mk (show nm = nmD s by rw [hnm, HNM.out])
  rw [← hnm]
  clear hnm
  go_upto_region 3 with fail
  have HDA := Kp.mk (Bl.new w2 57 #[.string nm, .string ⟨#[]⟩, .bool false])
  have HRA := Kp.mk (HR2.out.alloc (.cells #[.string nm, .string ⟨#[]⟩, .bool false] 57))
  have HBA := Kp.mk (HB2.out.alloc hz2 (.cells #[.string nm, .string ⟨#[]⟩, .bool false] 57))
  obtain ⟨wA, hwA⟩ : ∃ wA, wA = w2.alloc (.cells #[.string nm, .string ⟨#[]⟩, .bool false] 57) := ⟨_, rfl⟩
  rw [← hwA] at HDA HRA HBA ⊢
  clear hwA
  generalize w2.heap.size = dd at *
  have d0 : wA.cell? ⟨dd, 0, none⟩ = some (.string nm) := HDA.out.cell 0
  have d1 : wA.cell? ⟨dd, 1, none⟩ = some (.string ⟨#[]⟩) := HDA.out.cell 1
  have d2 : wA.cell? ⟨dd, 2, none⟩ = some (.bool false) := HDA.out.cell 2
  have d3 : wA.frozen? ⟨dd, 1, none⟩ = false := HDA.out.free 1
  have d4 : wA.frozen? ⟨dd, 2, none⟩ = false := HDA.out.free 2
  have r0 : wA.cell? ⟨w.heap.size, 0, none⟩ = some (.string ⟨#[]⟩) := HRA.out.cell 0
  have r1 : wA.cell? ⟨w.heap.size, 1, none⟩ = some (.string ⟨#[]⟩) := HRA.out.cell 1
  have r2 : wA.cell? ⟨w.heap.size, 2, none⟩ = some (.bool false) := HRA.out.cell 2
  have f0 : wA.frozen? ⟨w.heap.size, 0, none⟩ = false := HRA.out.free 0
  have f1 : wA.frozen? ⟨w.heap.size, 1, none⟩ = false := HRA.out.free 1
  have f2 : wA.frozen? ⟨w.heap.size, 2, none⟩ = false := HRA.out.free 2
  rcases Nat.eq_zero_or_pos (dN s) with hn | hn
  · have t1 : ((dN s : Int) == 0) = true := szi hn
    have q1 : ¬ (0 : Int) < (dN s : Int) := by omega
    have HBE := Kp.mk (below_set3 HBA.out (.string nm) (.string ⟨#[]⟩) (.bool false))
    have HRE := Kp.mk (bl_set3 HRA.out (.string nm) (.string ⟨#[]⟩) (.bool false))
    have HVV := Kp.mk (show okD s = false by unfold okD; rw [decide_eq_false (p := 0 < dN s) (by omega)]; rfl)
    obtain ⟨k0, k1, k2⟩ := bl_cells HRE.out
    have k3 := HRE.out.lt
    go_wp2_with fail
    refine bodyPost_ret (v := .tuple #[.agg #[.string nm, .string ⟨#[]⟩, .bool false], .bool false]) (by simp [results, Tryz.results119, go_sem, k0, k1, k2, k3]) rfl ⟨nm, ⟨#[]⟩, false, by rw [HVV.out], (fun h => by rw [HVV.out] at h; cases h), HBE.out⟩
  · have t1 : ((dN s : Int) == 0) = false := szn hn
    have q1 : (0 : Int) < (dN s : Int) := by omega
    by_cases hlt : dN s < s.size
    · have t2 : ((dN s : Int) == (s.size : Int)) = false := eqn (by omega)
      by_cases hb : bt s (dN s) = 61
      · have t3 : ((s[dN s].toNat : Int) != 61) = false := by rw [bt_at, hb]; rfl
        have HS := Kp.mk (show setD s = true by unfold setD; rw [hb, decide_eq_true hlt]; rfl)
        have HOK := Kp.mk (okD_set HS.out hn)
        have HVL := Kp.mk (vlD_set HS.out)
        clear hb
        go_upto_region 8 with fail
        have HD5 := Kp.mk (HDA.out.set 2 (.bool true))
        have HR5 := Kp.mk (HRA.out.far (p := ⟨dd, 2, none⟩) (by show w.heap.size ≠ dd; omega) (.bool true))
        have HB5 := Kp.mk (HBA.out.setCell (p := ⟨dd, 2, none⟩) (by show w.heap.size ≤ dd; omega) (.bool true))
        clear d0 d1 d2 d3 d4 r0 r1 r2 f0 f1 f2
        obtain ⟨w5, hw5⟩ : ∃ wx, wx = wA.setCell ⟨dd, 2, none⟩ (.bool true) := ⟨_, rfl⟩
        rw [← hw5] at HD5 HR5 HB5 ⊢
        clear hw5
        replace HD5 : Kp (Bl w5 dd 57 #[.string nm, .string ⟨#[]⟩, .bool true]) := HD5
        have d0 : w5.cell? ⟨dd, 0, none⟩ = some (.string nm) := HD5.out.cell 0
        have d1 : w5.cell? ⟨dd, 1, none⟩ = some (.string ⟨#[]⟩) := HD5.out.cell 1
        have d2 : w5.cell? ⟨dd, 2, none⟩ = some (.bool true) := HD5.out.cell 2
        have d3 : w5.frozen? ⟨dd, 1, none⟩ = false := HD5.out.free 1
        have d4 : w5.frozen? ⟨dd, 2, none⟩ = false := HD5.out.free 2
        have r0 : w5.cell? ⟨w.heap.size, 0, none⟩ = some (.string ⟨#[]⟩) := HR5.out.cell 0
        have r1 : w5.cell? ⟨w.heap.size, 1, none⟩ = some (.string ⟨#[]⟩) := HR5.out.cell 1
        have r2 : w5.cell? ⟨w.heap.size, 2, none⟩ = some (.bool false) := HR5.out.cell 2
        have f0 : w5.frozen? ⟨w.heap.size, 0, none⟩ = false := HR5.out.free 0
        have f1 : w5.frozen? ⟨w.heap.size, 1, none⟩ = false := HR5.out.free 1
        have f2 : w5.frozen? ⟨w.heap.size, 2, none⟩ = false := HR5.out.free 2
        have hfz : (fromB s (dN s + 1)).size ≤ 1000000 := by rw [fromB_size]; omega
        have HTV := Kp.mk (show (preN tcharB (fromB s (dN s + 1)) : Nat) = dK s from rfl)
        have hkl := dK_le s
        have hkz : dK s ≤ (fromB s (dN s + 1)).size := preN_le _ _
        go_wp2_with fail
        simp only [ext_from]
        refine (ref_token4_any _ _ (by unfold maxLen; omega)).mono ?_
        rintro e w6 ⟨rfl, rfl⟩
        rw [HTV.out]
        have HTT := Kp.mk (show (fromB s (dN s + 1)).extract 0 (dK s) = upB (fromB s (dN s + 1)) (dK s) from rfl)
        go_upto_region 11 with fail
        simp only [ext_up]
        generalize upB (fromB s (dN s + 1)) (dK s) = tv at *
        have HD7 := Kp.mk (HD5.out.set 1 (.string tv))
        have HR7 := Kp.mk (HR5.out.far (p := ⟨dd, 1, none⟩) (by show w.heap.size ≠ dd; omega) (.string tv))
        have HB7 := Kp.mk (HB5.out.setCell (p := ⟨dd, 1, none⟩) (by show w.heap.size ≤ dd; omega) (.string tv))
        clear d0 d1 d2 d3 d4 r0 r1 r2 f0 f1 f2
        obtain ⟨w7, hw7⟩ : ∃ wx, wx = w5.setCell ⟨dd, 1, none⟩ (.string tv) := ⟨_, rfl⟩
        rw [← hw7] at HD7 HR7 HB7 ⊢
        clear hw7
        replace HD7 : Kp (Bl w7 dd 57 #[.string nm, .string tv, .bool true]) := HD7
        have d0 : w7.cell? ⟨dd, 0, none⟩ = some (.string nm) := HD7.out.cell 0
        have d1 : w7.cell? ⟨dd, 1, none⟩ = some (.string tv) := HD7.out.cell 1
        have d2 : w7.cell? ⟨dd, 2, none⟩ = some (.bool true) := HD7.out.cell 2
        have d3 : w7.frozen? ⟨dd, 1, none⟩ = false := HD7.out.free 1
        have d4 : w7.frozen? ⟨dd, 2, none⟩ = false := HD7.out.free 2
        have r0 : w7.cell? ⟨w.heap.size, 0, none⟩ = some (.string ⟨#[]⟩) := HR7.out.cell 0
        have r1 : w7.cell? ⟨w.heap.size, 1, none⟩ = some (.string ⟨#[]⟩) := HR7.out.cell 1
        have r2 : w7.cell? ⟨w.heap.size, 2, none⟩ = some (.bool false) := HR7.out.cell 2
        have f0 : w7.frozen? ⟨w.heap.size, 0, none⟩ = false := HR7.out.free 0
        have f1 : w7.frozen? ⟨w.heap.size, 1, none⟩ = false := HR7.out.free 1
        have f2 : w7.frozen? ⟨w.heap.size, 2, none⟩ = false := HR7.out.free 2
        rcases Nat.eq_zero_or_pos (dK s) with hk | hk
        · have q2 : ¬ (0 : Int) < (dK s : Int) := by omega
          have hql : dQ s ≤ (fromB s (dN s + 1)).size := quotedN_le _
          have HQN := Kp.mk (show quotedN (fromB s (dN s + 1)) = dQ s from rfl)
          have HVL2 := Kp.mk (HVL.out.trans (if_neg (by omega)))
          have HOK2 := Kp.mk (HOK.out.trans (if_neg (by omega)))
          go_wp2_with fail
          refine (ref_quoted_any _ _ (by omega)).mono ?_
          rintro e w8 ⟨rfl, rfl⟩
          rw [HQN.out]
          generalize quotedS (fromB s (dN s + 1)) = qv at *
          go_upto_region 15 with fail
          have HD9 := Kp.mk (HD7.out.set 1 (.string qv))
          have HR9 := Kp.mk (HR7.out.far (p := ⟨dd, 1, none⟩) (by show w.heap.size ≠ dd; omega) (.string qv))
          have HB9 := Kp.mk (HB7.out.setCell (p := ⟨dd, 1, none⟩) (by show w.heap.size ≤ dd; omega) (.string qv))
          clear d0 d1 d2 d3 d4 r0 r1 r2 f0 f1 f2
          obtain ⟨w9, hw9⟩ : ∃ wx, wx = w7.setCell ⟨dd, 1, none⟩ (.string qv) := ⟨_, rfl⟩
          rw [← hw9] at HD9 HR9 HB9 ⊢
          clear hw9
          replace HD9 : Kp (Bl w9 dd 57 #[.string nm, .string qv, .bool true]) := HD9
          have d0 : w9.cell? ⟨dd, 0, none⟩ = some (.string nm) := HD9.out.cell 0
          have d1 : w9.cell? ⟨dd, 1, none⟩ = some (.string qv) := HD9.out.cell 1
          have d2 : w9.cell? ⟨dd, 2, none⟩ = some (.bool true) := HD9.out.cell 2
          have d3 : w9.frozen? ⟨dd, 1, none⟩ = false := HD9.out.free 1
          have d4 : w9.frozen? ⟨dd, 2, none⟩ = false := HD9.out.free 2
          have r0 : w9.cell? ⟨w.heap.size, 0, none⟩ = some (.string ⟨#[]⟩) := HR9.out.cell 0
          have r1 : w9.cell? ⟨w.heap.size, 1, none⟩ = some (.string ⟨#[]⟩) := HR9.out.cell 1
          have r2 : w9.cell? ⟨w.heap.size, 2, none⟩ = some (.bool false) := HR9.out.cell 2
          have f0 : w9.frozen? ⟨w.heap.size, 0, none⟩ = false := HR9.out.free 0
          have f1 : w9.frozen? ⟨w.heap.size, 1, none⟩ = false := HR9.out.free 1
          have f2 : w9.frozen? ⟨w.heap.size, 2, none⟩ = false := HR9.out.free 2
          rcases Nat.eq_zero_or_pos (dQ s) with hq | hq
          · have q3 : ¬ (0 : Int) < (dQ s : Int) := by omega
            have HBE := Kp.mk (below_set3 HB9.out (.string nm) (.string qv) (.bool true))
            have HRE := Kp.mk (bl_set3 HR9.out (.string nm) (.string qv) (.bool true))
            have HVV := Kp.mk (show okD s = false by rw [HOK2.out, decide_eq_false (p := 0 < dQ s) (by omega)]; rfl)
            obtain ⟨k0, k1, k2⟩ := bl_cells HRE.out
            have k3 := HRE.out.lt
            go_wp2_with fail
            refine bodyPost_ret (v := .tuple #[.agg #[.string nm, .string qv, .bool true], .bool false]) (by simp [results, Tryz.results119, go_sem, k0, k1, k2, k3]) rfl ⟨nm, qv, true, by rw [HVV.out], (fun h => by rw [HVV.out] at h; cases h), HBE.out⟩
          · have q3 : (0 : Int) < (dQ s : Int) := by omega
            obtain ⟨db, hdb⟩ : ∃ db, decide (s.size - (dN s + 1 + dQ s) = 0) = db := ⟨_, rfl⟩
            have t5 : ((dQ s : Int) == ((fromB s (dN s + 1)).size : Int)) = db := by rw [← hdb, Bool.eq_iff_iff, beq_iff_eq, decide_eq_true_iff]; rw [fromB_size] at hql ⊢; omega
            have HDB := Kp.mk hdb
            clear hdb
            have HBE := Kp.mk (below_set3 HB9.out (.string nm) (.string qv) (.bool true))
            have HRE := Kp.mk (bl_set3 HR9.out (.string nm) (.string qv) (.bool true))
            have HVV := Kp.mk (show okD s = db by rw [HOK2.out, HDB.out, decide_eq_true hq]; rfl)
            obtain ⟨k0, k1, k2⟩ := bl_cells HRE.out
            have k3 := HRE.out.lt
            go_wp2_with fail
            refine bodyPost_ret (v := .tuple #[.agg #[.string nm, .string qv, .bool true], .bool db]) (by simp [results, Tryz.results119, go_sem, k0, k1, k2, k3]) rfl ⟨nm, qv, true, by rw [HVV.out], fun _ => ⟨HNE.out, HVL2.out.symm, HS.out.symm⟩, HBE.out⟩
        · have q2 : (0 : Int) < (dK s : Int) := by omega
          obtain ⟨db, hdb⟩ : ∃ db, decide (dK s = s.size - (dN s + 1)) = db := ⟨_, rfl⟩
          have t5 : ((dK s : Int) == ((fromB s (dN s + 1)).size : Int)) = db := by rw [← hdb, Bool.eq_iff_iff, beq_iff_eq, decide_eq_true_iff, fromB_size]; omega
          have HDB := Kp.mk hdb
          clear hdb
          have HBE := Kp.mk (below_set3 HB7.out (.string nm) (.string tv) (.bool true))
          have HRE := Kp.mk (bl_set3 HR7.out (.string nm) (.string tv) (.bool true))
          have HVV := Kp.mk (show okD s = db by rw [HOK.out, if_pos hk, HDB.out])
          obtain ⟨k0, k1, k2⟩ := bl_cells HRE.out
          have k3 := HRE.out.lt
          go_wp2_with fail
          refine bodyPost_ret (v := .tuple #[.agg #[.string nm, .string tv, .bool true], .bool db]) (by simp [results, Tryz.results119, go_sem, k0, k1, k2, k3]) rfl ⟨nm, tv, true, by rw [HVV.out], fun _ => ⟨HNE.out, by rw [HVL.out, if_pos hk], HS.out.symm⟩, HBE.out⟩
      · have t3 : ((s[dN s].toNat : Int) != 61) = true := by rw [bt_at, bne_iff_ne]; omega
        have HS := Kp.mk (setD_no (s := s) (fun h => hb h.2))
        have HOK := Kp.mk (okD_plain HS.out).1
        clear hb
        have HBE := Kp.mk (below_set3 HBA.out (.string nm) (.string ⟨#[]⟩) (.bool false))
        have HRE := Kp.mk (bl_set3 HRA.out (.string nm) (.string ⟨#[]⟩) (.bool false))
        have HVV := Kp.mk (show okD s = false by rw [HOK.out, decide_eq_false (p := s.size - dN s = 0) (by omega)]; simp)
        obtain ⟨k0, k1, k2⟩ := bl_cells HRE.out
        have k3 := HRE.out.lt
        go_wp2_with fail
        refine bodyPost_ret (v := .tuple #[.agg #[.string nm, .string ⟨#[]⟩, .bool false], .bool false]) (by simp [results, Tryz.results119, go_sem, k0, k1, k2, k3]) rfl ⟨nm, ⟨#[]⟩, false, by rw [HVV.out], (fun h => by rw [HVV.out] at h; cases h), HBE.out⟩
    · have t2 : ((dN s : Int) == (s.size : Int)) = true := eqi (by omega)
      have HS := Kp.mk (setD_no (s := s) (fun h => hlt h.1))
      have HOK := Kp.mk (okD_plain HS.out)
      have HBE := Kp.mk (below_set3 HBA.out (.string nm) (.string ⟨#[]⟩) (.bool false))
      have HRE := Kp.mk (bl_set3 HRA.out (.string nm) (.string ⟨#[]⟩) (.bool false))
      have HVV := Kp.mk (show okD s = true by rw [HOK.out.1, decide_eq_true hn, decide_eq_true (p := s.size - dN s = 0) (by omega)]; rfl)
      obtain ⟨k0, k1, k2⟩ := bl_cells HRE.out
      have k3 := HRE.out.lt
      go_wp2_with fail
      refine bodyPost_ret (v := .tuple #[.agg #[.string nm, .string ⟨#[]⟩, .bool false], .bool true]) (by simp [results, Tryz.results119, go_sem, k0, k1, k2, k3]) rfl ⟨nm, ⟨#[]⟩, false, by rw [HVV.out], fun _ => ⟨HNE.out, HOK.out.2.symm, HS.out.symm⟩, HBE.out⟩
end Go.Proofs.YtgamekfickheaaaGreat
namespace Go.Proofs.YtgamekfickheaaaGreat
open Go.RowKit
set_option linter.unusedVariables false
set_option linter.unusedSimpArgs false

/-- A directive: its name, its value, whether it has one. -/
abbrev Dir := ByteArray × ByteArray × Bool
def dirC (d : Dir) : List Value := [.string d.1, .string d.2.1, .bool d.2.2]
def dvH (l : List Dir) : List Value := l.flatMap dirC
theorem dvH_snoc (l : List Dir) (d : Dir) : dvH (l ++ [d]) = dvH l ++ [.string d.1, .string d.2.1, .bool d.2.2] := by simp [dvH, dirC]
theorem Tryz.infoDi : (Tryz.prog.info? 57).map (fun i => (i.zero, i.size, i.bytes)) = some (some (.agg #[.string ByteArray.empty, .string ByteArray.empty, .bool false]), 3, 40) := by kernel_rfl
abbrev RdD (w : World) (v : Value) (l : List Dir) : Prop := RdL dirC 3 w v l
theorem rdd_own {w : World} {B : Nat} {v : Value} {l : List Dir} (h : w.ownsRow B 57 3 v l.length (dvH l)) : RdD w v l := RdL.of_own (f := dirC) (fun _ => rfl) h
theorem rdd_cells {w : World} {a : Option Addr} {c n : Nat} {l : List Dir} (h : RdD w (.slice a n c) l) (h0 : 0 < l.length) : ∃ b o, a = some ⟨b, o, none⟩ ∧ b < w.heap.size ∧ ∀ (j : Nat) (h : j < l.length), w.cell? ⟨b, o + j * 3, none⟩ = some (.string l[j].1) ∧ w.cell? ⟨b, o + j * 3 + 1, none⟩ = some (.string l[j].2.1) ∧ w.cell? ⟨b, o + j * 3 + 2, none⟩ = some (.bool l[j].2.2) := by
  obtain ⟨a', c', h1, h2, h3, h4⟩ := h
  cases h1
  obtain ⟨b, o, g1, g2, g3⟩ := h4 h0
  exact ⟨b, o, g1, g2, fun j hj => ⟨by have := g3 j hj 0 (by omega); simpa [dirC] using this, by have := g3 j hj 1 (by omega); simpa [dirC] using this, by have := g3 j hj 2 (by omega); simpa [dirC] using this⟩⟩
def dirOf (s : ByteArray) : Dir := (nmD s, vlD s, setD s)
def prsOk (v : ByteArray) : Bool := splB v && (splL v).all okD
/-- P21.1: the directives that a text is. -/
def prs (v : ByteArray) : List Dir := if prsOk v = true then (splL v).map dirOf else []
def RetD (v : ByteArray) (w : World) (e : Ending) (w' : World) : Prop := ∃ u, e = .returned (.tuple #[u, .bool (prsOk v)]) ∧ w'.ownsRow w.heap.size 57 3 u (prs v).length (dvH (prs v)) ∧ Below w.heap.size w w'
def dirP (L : List ByteArray) (k : Nat) : List Dir := (L.take k).map dirOf
theorem dirP_step {L : List ByteArray} {k : Nat} (h : k < L.length) : dirP L (k + 1) = dirP L k ++ [dirOf L[k]] := by
  unfold dirP
  rw [List.take_succ_eq_append_getElem h, List.map_append]
  rfl
theorem dirP_len (L : List ByteArray) (k : Nat) : (dirP L k).length ≤ k := by unfold dirP; rw [List.length_map, List.length_take]; omega
def okU (L : List ByteArray) (k : Nat) : Prop := ∀ (j : Nat) (h : j < L.length), j < k → okD L[j] = true
theorem prs_hit {v : ByteArray} {k : Nat} (h : k < (splL v).length) (hf : okD (splL v)[k] = false) : prsOk v = false ∧ prs v = [] := by
  have h1 : prsOk v = false := by
    unfold prsOk
    rw [show (splL v).all okD = false from List.all_eq_false.2 ⟨_, List.getElem_mem h, by simp [hf]⟩]
    simp
  exact ⟨h1, by unfold prs; rw [h1]; rfl⟩
theorem prs_end {v : ByteArray} {k : Nat} (hk : (splL v).length ≤ k) (h : okU (splL v) k) : prsOk v = splB v ∧ prs v = dirP (splL v) k := by
  have ha : (splL v).all okD = true := List.all_eq_true.2 fun x hx => by
    obtain ⟨j, hj, rfl⟩ := List.getElem_of_mem hx
    exact h j hj (by omega)
  have h1 : prsOk v = splB v := by unfold prsOk; rw [ha]; simp
  refine ⟨h1, ?_⟩
  unfold prs dirP
  rw [h1, List.take_of_length_le hk]
  cases hb : splB v
  · have : splL v = [] := by unfold splL; rw [hb]; rfl
    rw [this]
    rfl
  · rfl
theorem prs_none {v : ByteArray} (h : splB v = false) : prsOk v = false ∧ prs v = [] := by
  have h1 : prsOk v = false := by unfold prsOk; rw [h]; rfl
  exact ⟨h1, by unfold prs; rw [h1]; rfl⟩
set_option maxRecDepth 100000 in
set_option maxHeartbeats 4000000 in
theorem rparse21_any (v : ByteArray) (w : World) (hvz : v.size ≤ 100000) : Calls Tryz.prog 92 #[.string v] w (RetD v w) := by
  have hln := splL_len v
  have HZ := Kp.mk (fun x (h : x ∈ splL v) => show x.size ≤ 100000 by have h1 := (splL_mem h).2; omega)
  have HHT := Kp.mk (fun (k : Nat) (h : k < (splL v).length) hf => prs_hit (v := v) h hf)
  have HEN := Kp.mk (fun (k : Nat) (h : (splL v).length ≤ k) hf => prs_end (v := v) h hf)
  go_enter Tryz.func92, Tryz.ntmps92
  go_wp2_with fail
  refine (rsplit_any v _ (by omega)).mono ?_
  rintro e w2 ⟨u, rfl, ho, hb2⟩
  have HB2 := Kp.mk hb2
  have HR := Kp.mk (rds_own ho)
  obtain ⟨a, c, rfl⟩ := own_lenH ho
  clear ho hb2
  generalize splL v = L at *
  generalize splB v = ob at *
  have HO0 := Kp.mk (World.ownsRow_lit (base := w2.heap.size) (e := 57) (size := 3) w2 #[] 0 (Nat.le_refl _) (by unfold maxLen; omega) rfl)
  have HB0 := Kp.mk ((Below.refl w2.heap.size w2).alloc (Nat.le_refl _) (.cells #[] 57))
  go_wp2_with fail
  go_loopw [6, 7] (fun ov i wr => ∃ k : Nat, k ≤ L.length ∧ i = .int .i64 k ∧ okU L k ∧ wr.ownsRow w2.heap.size 57 3 ov (dirP L k).length (dvH (dirP L k)) ∧ Below w2.heap.size w2 wr) (fun _ i _ => L.length - (intOf i).toNat)
  case atStart => exact ⟨0, by omega, rfl, fun j _ h => by omega, HO0.out, HB0.out⟩
  case round =>
    obtain ⟨k, hk, rfl, hok, hown, hb⟩ := hrel
    obtain ⟨av, cv, rfl⟩ := own_lenH hown
    have HOK := Kp.mk hok
    have HOW := Kp.mk hown
    have HB := Kp.mk hb
    have HBW := Kp.mk (HB2.out.trans (hb.mono HB2.out.size))
    have hle := dirP_len L k
    clear hok hown hb
    by_cases hlt : k < L.length
    · obtain ⟨g, o, rfl, hgl, d0⟩ := rds_cells (HR.out.below HB.out) (by omega)
      have c1 := d0 k hlt
      have m1 := HZ.out L[k] (List.getElem_mem hlt)
      have q0 : (0 : Int) ≤ (k : Int) := by omega
      have q1 : (k : Int) < (L.length : Int) := by omega
      have HST := Kp.mk (dirP_step hlt)
      have HHit := Kp.mk (HHT.out k hlt)
      have HN := Kp.mk (fun (ht : okD L[k] = true) => show okU L (k + 1) from fun j hj h => by
        by_cases hjk : j = k
        · subst hjk; exact ht
        · exact HOK.out j hj (by omega))
      clear d0
      generalize L[k] = x at *
      have HP := Kp.mk (fun W => rone21_any x W (by omega))
      unfold OnePostD at HP
      have HDO := Kp.mk (show dirOf x = (nmD x, vlD x, setD x) from rfl)
      generalize dirP L k = P at *
      have hlen : (P.length + 1) * 40 ≤ 140737488355328 := by omega
      have hmx : P.length + 1 ≤ maxLen := by unfold maxLen; omega
      go_wp2_with fail
      refine (HP.out _).mono ?_
      rintro e w4 ⟨nm, vl, st, rfl, hval, hb4⟩
      have HVA := Kp.mk hval
      have HB4 := Kp.mk (HB.out.trans (hb4.mono HB.out.size))
      have HB4W := Kp.mk (HBW.out.trans (hb4.mono HBW.out.size))
      have HO4 := Kp.mk ((own_bel HOW.out hb4).alloc (.cells #[.string nm, .string vl, .bool st] 57))
      have hsz4 : w2.heap.size ≤ w4.heap.size := HB4.out.size
      have hszX : w2.heap.size ≤ (w4.alloc (.cells #[.string nm, .string vl, .bool st] 57)).heap.size := by simp; omega
      have HBX := Kp.mk (HB4.out.alloc hsz4 (.cells #[.string nm, .string vl, .bool st] 57))
      have HBXW := Kp.mk (HB4W.out.alloc HB4W.out.size (.cells #[.string nm, .string vl, .bool st] 57))
      clear hval hb4 c1
      cases hod : okD x
      · obtain ⟨e1, e2⟩ := HHit.out hod
        have E1 := Kp.mk e1
        have E2 := Kp.mk e2
        clear e1 e2
        go_wp2_with fail
        go_ret2
        exact ⟨.slice none 0 0, by rw [E1.out]; rfl, by rw [E2.out]; exact World.ownsRow_nil _ _ _ _, HBXW.out⟩
      · obtain ⟨y1, y2, y3⟩ := HVA.out hod
        have HY := Kp.mk (show dirOf x = (nm, vl, st) by rw [HDO.out, y1, y2, y3])
        have HN2 := Kp.mk (HN.out hod)
        clear y1 y2 y3
        go_wp2_with (at_builtin; refine app_any rfl _ _ _ _ rfl Tryz.underlying52 _ _ _ Tryz.infoDi rfl (by omega) w2.heap.size _ _ _ rfl HO4.out #[.string nm, .string vl, .bool st] rfl (fun u hu => by simp at hu; rcases hu with rfl | rfl | rfl <;> rfl) (w4.heap.size + 1) (by simp) rfl hlen hmx hszX ?_; intro g9 cap9 w9 h1 h2 h3; have G3 := Kp.mk h1; have G4 := Kp.mk (grown_bel HO4.out hszX h2); clear h1 h2 h3)
        go_roundw
        case rel =>
          refine ⟨k + 1, by omega, by go_num, HN2.out, ?_, HBX.out.trans G4.out⟩
          rw [HST.out, List.length_append, dvH_snoc, HY.out]
          exact G3.out
        case measure => simp [intOf]; omega
    · obtain ⟨e1, e2⟩ := HEN.out k (by omega) HOK.out
      have E1 := Kp.mk e1
      have E2 := Kp.mk e2
      clear e1 e2
      go_wp2_with fail
      go_ret2
      refine ⟨.slice av (dirP L k).length cv, by rw [E1.out]; rfl, ?_, HBW.out⟩
      rw [E2.out]
      exact own_low HOW.out HB2.out.size
end Go.Proofs.YtgamekfickheaaaGreat
