/- What is said to caches (layer 21): a directive, the document's. -/
import Derived.Test.YthlkflneldjnjaaCcz
import Derived.Test.YthlkflneldjnjaaPrf
import Derived.Test.YthlkflneldjnjaaOctr
namespace Go.Proofs.Ythlkflneldjnjaa
open Go.RowKit
set_option linter.unusedVariables false
set_option linter.unusedSimpArgs false

def OnePostD (s : ByteArray) (w : World) (e : Ending) (w' : World) : Prop :=
  ∃ (nm vl : ByteArray) (st : Bool), e = .returned (.tuple #[.agg #[.string nm, .string vl, .bool st], .bool (okD s)]) ∧ (okD s = true → nm = nmD s ∧ vl = vlD s ∧ st = setD s) ∧ Below w.heap.size w w'
theorem dK_le (s : ByteArray) : dK s ≤ s.size - (dN s + 1) := by
  have h : dK s ≤ (fromB s (dN s + 1)).size := preN_le _ _
  rw [fromB_size] at h
  exact h
theorem dN_le (s : ByteArray) : dN s ≤ s.size := preN_le _ _
theorem setD_no {s : ByteArray} (h : ¬ (dN s < s.size ∧ bt s (dN s) = 61)) : setD s = false := by
  unfold setD
  rw [Bool.and_eq_false_iff, decide_eq_false_iff_not, beq_eq_false_iff_ne]
  by_cases h1 : dN s < s.size
  · exact .inr (fun h2 => h ⟨h1, h2⟩)
  · exact .inl h1
theorem okD_plain {s : ByteArray} (h : setD s = false) : okD s = (decide (0 < dN s) && decide (s.size - dN s = 0)) ∧ vlD s = ⟨#[]⟩ := by
  unfold okD enD vlD
  rw [h]
  simp [fromB_size]
theorem okD_set {s : ByteArray} (h : setD s = true) (hn : 0 < dN s) : okD s = if 0 < dK s then decide (dK s = s.size - (dN s + 1)) else (decide (0 < dQ s) && decide (s.size - (dN s + 1 + dQ s) = 0)) := by
  have hk := dK_le s
  unfold okD enD
  rw [h, decide_eq_true hn]
  by_cases h0 : 0 < dK s
  · rw [if_pos h0, decide_eq_true h0]
    simp only [fromB_size, Bool.not_true, Bool.true_or, Bool.or_true, Bool.false_or, Bool.true_and, if_true, Bool.true_and]
    rw [if_pos h0]
    congr 1
    rw [eq_iff_iff]
    omega
  · rw [if_neg h0, decide_eq_false h0]
    simp only [fromB_size, Bool.not_true, Bool.false_or, Bool.true_and, if_true]
    rw [if_neg h0]
theorem vlD_set {s : ByteArray} (h : setD s = true) : vlD s = if 0 < dK s then upB (fromB s (dN s + 1)) (dK s) else quotedS (fromB s (dN s + 1)) := by unfold vlD; rw [h]; rfl
set_option maxRecDepth 100000 in
set_option maxHeartbeats 4000000 in
theorem rone21_any (s : ByteArray) (w : World) (hs : s.size ≤ 1000000) :
    Calls Try.prog 82 #[.string s] w (OnePostD s w) := by
  have hnl := dN_le s
  have HTK := Kp.mk (show (preN tcharB s : Nat) = dN s from rfl)
  have hup : (upB s (dN s)).size ≤ 1000000 := by rw [upB_size]; omega
  have HNM := Kp.mk (show nmD s = lowB (upB s (dN s)) from rfl)
  have HR0 := Kp.mk (Bl.new w 50 #[.string ⟨#[]⟩, .string ⟨#[]⟩, .bool false])
  have HB0 := Kp.mk ((Below.refl w.heap.size w).alloc (Nat.le_refl _) (.cells #[.string ⟨#[]⟩, .string ⟨#[]⟩, .bool false] 50))
  go_enter Try.func82, Try.ntmps82
  go_wp2_with fail
  refine (ref_token4_any _ _ (by unfold maxLen; omega)).mono ?_
  rintro e w1 ⟨rfl, rfl⟩
  rw [HTK.out]
  go_wp2_with fail
  simp only [ext_up]
  refine (ref_lower_any _ _ (by omega)).mono ?_
  rintro e w2 ⟨rfl, hb2⟩
  have HR2 := Kp.mk (HR0.out.below hb2)
  have HB2 := Kp.mk (HB0.out.trans (hb2.mono HB0.out.size))
  have hz2 := HB2.out.size
  clear hb2
  have hz3 : w.heap.size < w2.heap.size := HR2.out.lt
  obtain ⟨nm, hnm⟩ : ∃ nm, nm = lowB (upB s (dN s)) := ⟨_, rfl⟩
  have HNE := Kp.mk (show nm = nmD s by rw [hnm, HNM.out])
  rw [← hnm]
  clear hnm
  go_upto_region 3 with fail
  have HDA := Kp.mk (Bl.new w2 50 #[.string nm, .string ⟨#[]⟩, .bool false])
  have HRA := Kp.mk (HR2.out.alloc (.cells #[.string nm, .string ⟨#[]⟩, .bool false] 50))
  have HBA := Kp.mk (HB2.out.alloc hz2 (.cells #[.string nm, .string ⟨#[]⟩, .bool false] 50))
  obtain ⟨wA, hwA⟩ : ∃ wA, wA = w2.alloc (.cells #[.string nm, .string ⟨#[]⟩, .bool false] 50) := ⟨_, rfl⟩
  rw [← hwA] at HDA HRA HBA ⊢
  clear hwA
  generalize w2.heap.size = dd at *
  have d0 : wA.cell? ⟨dd, 0, none⟩ = some (.string nm) := HDA.out.cell 0
  have d1 : wA.cell? ⟨dd, 1, none⟩ = some (.string ⟨#[]⟩) := HDA.out.cell 1
  have d2 : wA.cell? ⟨dd, 2, none⟩ = some (.bool false) := HDA.out.cell 2
  have d3 : wA.frozen? ⟨dd, 1, none⟩ = false := HDA.out.free 1
  have d4 : wA.frozen? ⟨dd, 2, none⟩ = false := HDA.out.free 2
  have r0 : wA.cell? ⟨w.heap.size, 0, none⟩ = some (.string ⟨#[]⟩) := HRA.out.cell 0
  have r1 : wA.cell? ⟨w.heap.size, 1, none⟩ = some (.string ⟨#[]⟩) := HRA.out.cell 1
  have r2 : wA.cell? ⟨w.heap.size, 2, none⟩ = some (.bool false) := HRA.out.cell 2
  have f0 : wA.frozen? ⟨w.heap.size, 0, none⟩ = false := HRA.out.free 0
  have f1 : wA.frozen? ⟨w.heap.size, 1, none⟩ = false := HRA.out.free 1
  have f2 : wA.frozen? ⟨w.heap.size, 2, none⟩ = false := HRA.out.free 2
  rcases Nat.eq_zero_or_pos (dN s) with hn | hn
  · have t1 : ((dN s : Int) == 0) = true := szi hn
    have q1 : ¬ (0 : Int) < (dN s : Int) := by omega
    have HBE := Kp.mk (below_set3 HBA.out (.string nm) (.string ⟨#[]⟩) (.bool false))
    have HRE := Kp.mk (bl_set3 HRA.out (.string nm) (.string ⟨#[]⟩) (.bool false))
    have HVV := Kp.mk (show okD s = false by unfold okD; rw [decide_eq_false (p := 0 < dN s) (by omega)]; rfl)
    obtain ⟨k0, k1, k2⟩ := bl_cells HRE.out
    have k3 := HRE.out.lt
    go_wp2_with fail
    refine bodyPost_ret (v := .tuple #[.agg #[.string nm, .string ⟨#[]⟩, .bool false], .bool false]) (by simp [results, Try.results82, go_sem, k0, k1, k2, k3]) rfl ⟨nm, ⟨#[]⟩, false, by rw [HVV.out], (fun h => by rw [HVV.out] at h; cases h), HBE.out⟩
  · have t1 : ((dN s : Int) == 0) = false := szn hn
    have q1 : (0 : Int) < (dN s : Int) := by omega
    by_cases hlt : dN s < s.size
    · have t2 : ((dN s : Int) == (s.size : Int)) = false := eqn (by omega)
      by_cases hb : bt s (dN s) = 61
      · have t3 : ((s[dN s].toNat : Int) != 61) = false := by rw [bt_at, hb]; rfl
        have HS := Kp.mk (show setD s = true by unfold setD; rw [hb, decide_eq_true hlt]; rfl)
        have HOK := Kp.mk (okD_set HS.out hn)
        have HVL := Kp.mk (vlD_set HS.out)
        clear hb
        go_upto_region 8 with fail
        have HD5 := Kp.mk (HDA.out.set 2 (.bool true))
        have HR5 := Kp.mk (HRA.out.far (p := ⟨dd, 2, none⟩) (by show w.heap.size ≠ dd; omega) (.bool true))
        have HB5 := Kp.mk (HBA.out.setCell (p := ⟨dd, 2, none⟩) (by show w.heap.size ≤ dd; omega) (.bool true))
        clear d0 d1 d2 d3 d4 r0 r1 r2 f0 f1 f2
        obtain ⟨w5, hw5⟩ : ∃ wx, wx = wA.setCell ⟨dd, 2, none⟩ (.bool true) := ⟨_, rfl⟩
        rw [← hw5] at HD5 HR5 HB5 ⊢
        clear hw5
        replace HD5 : Kp (Bl w5 dd 50 #[.string nm, .string ⟨#[]⟩, .bool true]) := HD5
        have d0 : w5.cell? ⟨dd, 0, none⟩ = some (.string nm) := HD5.out.cell 0
        have d1 : w5.cell? ⟨dd, 1, none⟩ = some (.string ⟨#[]⟩) := HD5.out.cell 1
        have d2 : w5.cell? ⟨dd, 2, none⟩ = some (.bool true) := HD5.out.cell 2
        have d3 : w5.frozen? ⟨dd, 1, none⟩ = false := HD5.out.free 1
        have d4 : w5.frozen? ⟨dd, 2, none⟩ = false := HD5.out.free 2
        have r0 : w5.cell? ⟨w.heap.size, 0, none⟩ = some (.string ⟨#[]⟩) := HR5.out.cell 0
        have r1 : w5.cell? ⟨w.heap.size, 1, none⟩ = some (.string ⟨#[]⟩) := HR5.out.cell 1
        have r2 : w5.cell? ⟨w.heap.size, 2, none⟩ = some (.bool false) := HR5.out.cell 2
        have f0 : w5.frozen? ⟨w.heap.size, 0, none⟩ = false := HR5.out.free 0
        have f1 : w5.frozen? ⟨w.heap.size, 1, none⟩ = false := HR5.out.free 1
        have f2 : w5.frozen? ⟨w.heap.size, 2, none⟩ = false := HR5.out.free 2
        have hfz : (fromB s (dN s + 1)).size ≤ 1000000 := by rw [fromB_size]; omega
        have HTV := Kp.mk (show (preN tcharB (fromB s (dN s + 1)) : Nat) = dK s from rfl)
        have hkl := dK_le s
        have hkz : dK s ≤ (fromB s (dN s + 1)).size := preN_le _ _
        go_wp2_with fail
        simp only [ext_from]
        refine (ref_token4_any _ _ (by unfold maxLen; omega)).mono ?_
        rintro e w6 ⟨rfl, rfl⟩
        rw [HTV.out]
        have HTT := Kp.mk (show (fromB s (dN s + 1)).extract 0 (dK s) = upB (fromB s (dN s + 1)) (dK s) from rfl)
        go_upto_region 11 with fail
        simp only [ext_up]
        generalize upB (fromB s (dN s + 1)) (dK s) = tv at *
        have HD7 := Kp.mk (HD5.out.set 1 (.string tv))
        have HR7 := Kp.mk (HR5.out.far (p := ⟨dd, 1, none⟩) (by show w.heap.size ≠ dd; omega) (.string tv))
        have HB7 := Kp.mk (HB5.out.setCell (p := ⟨dd, 1, none⟩) (by show w.heap.size ≤ dd; omega) (.string tv))
        clear d0 d1 d2 d3 d4 r0 r1 r2 f0 f1 f2
        obtain ⟨w7, hw7⟩ : ∃ wx, wx = w5.setCell ⟨dd, 1, none⟩ (.string tv) := ⟨_, rfl⟩
        rw [← hw7] at HD7 HR7 HB7 ⊢
        clear hw7
        replace HD7 : Kp (Bl w7 dd 50 #[.string nm, .string tv, .bool true]) := HD7
        have d0 : w7.cell? ⟨dd, 0, none⟩ = some (.string nm) := HD7.out.cell 0
        have d1 : w7.cell? ⟨dd, 1, none⟩ = some (.string tv) := HD7.out.cell 1
        have d2 : w7.cell? ⟨dd, 2, none⟩ = some (.bool true) := HD7.out.cell 2
        have d3 : w7.frozen? ⟨dd, 1, none⟩ = false := HD7.out.free 1
        have d4 : w7.frozen? ⟨dd, 2, none⟩ = false := HD7.out.free 2
        have r0 : w7.cell? ⟨w.heap.size, 0, none⟩ = some (.string ⟨#[]⟩) := HR7.out.cell 0
        have r1 : w7.cell? ⟨w.heap.size, 1, none⟩ = some (.string ⟨#[]⟩) := HR7.out.cell 1
        have r2 : w7.cell? ⟨w.heap.size, 2, none⟩ = some (.bool false) := HR7.out.cell 2
        have f0 : w7.frozen? ⟨w.heap.size, 0, none⟩ = false := HR7.out.free 0
        have f1 : w7.frozen? ⟨w.heap.size, 1, none⟩ = false := HR7.out.free 1
        have f2 : w7.frozen? ⟨w.heap.size, 2, none⟩ = false := HR7.out.free 2
        rcases Nat.eq_zero_or_pos (dK s) with hk | hk
        · have q2 : ¬ (0 : Int) < (dK s : Int) := by omega
          have hql : dQ s ≤ (fromB s (dN s + 1)).size := quotedN_le _
          have HQN := Kp.mk (show quotedN (fromB s (dN s + 1)) = dQ s from rfl)
          have HVL2 := Kp.mk (HVL.out.trans (if_neg (by omega)))
          have HOK2 := Kp.mk (HOK.out.trans (if_neg (by omega)))
          go_wp2_with fail
          refine (ref_quoted_any _ _ (by omega)).mono ?_
          rintro e w8 ⟨rfl, rfl⟩
          rw [HQN.out]
          generalize quotedS (fromB s (dN s + 1)) = qv at *
          go_upto_region 15 with fail
          have HD9 := Kp.mk (HD7.out.set 1 (.string qv))
          have HR9 := Kp.mk (HR7.out.far (p := ⟨dd, 1, none⟩) (by show w.heap.size ≠ dd; omega) (.string qv))
          have HB9 := Kp.mk (HB7.out.setCell (p := ⟨dd, 1, none⟩) (by show w.heap.size ≤ dd; omega) (.string qv))
          clear d0 d1 d2 d3 d4 r0 r1 r2 f0 f1 f2
          obtain ⟨w9, hw9⟩ : ∃ wx, wx = w7.setCell ⟨dd, 1, none⟩ (.string qv) := ⟨_, rfl⟩
          rw [← hw9] at HD9 HR9 HB9 ⊢
          clear hw9
          replace HD9 : Kp (Bl w9 dd 50 #[.string nm, .string qv, .bool true]) := HD9
          have d0 : w9.cell? ⟨dd, 0, none⟩ = some (.string nm) := HD9.out.cell 0
          have d1 : w9.cell? ⟨dd, 1, none⟩ = some (.string qv) := HD9.out.cell 1
          have d2 : w9.cell? ⟨dd, 2, none⟩ = some (.bool true) := HD9.out.cell 2
          have d3 : w9.frozen? ⟨dd, 1, none⟩ = false := HD9.out.free 1
          have d4 : w9.frozen? ⟨dd, 2, none⟩ = false := HD9.out.free 2
          have r0 : w9.cell? ⟨w.heap.size, 0, none⟩ = some (.string ⟨#[]⟩) := HR9.out.cell 0
          have r1 : w9.cell? ⟨w.heap.size, 1, none⟩ = some (.string ⟨#[]⟩) := HR9.out.cell 1
          have r2 : w9.cell? ⟨w.heap.size, 2, none⟩ = some (.bool false) := HR9.out.cell 2
          have f0 : w9.frozen? ⟨w.heap.size, 0, none⟩ = false := HR9.out.free 0
          have f1 : w9.frozen? ⟨w.heap.size, 1, none⟩ = false := HR9.out.free 1
          have f2 : w9.frozen? ⟨w.heap.size, 2, none⟩ = false := HR9.out.free 2
          rcases Nat.eq_zero_or_pos (dQ s) with hq | hq
          · have q3 : ¬ (0 : Int) < (dQ s : Int) := by omega
            have HBE := Kp.mk (below_set3 HB9.out (.string nm) (.string qv) (.bool true))
            have HRE := Kp.mk (bl_set3 HR9.out (.string nm) (.string qv) (.bool true))
            have HVV := Kp.mk (show okD s = false by rw [HOK2.out, decide_eq_false (p := 0 < dQ s) (by omega)]; rfl)
            obtain ⟨k0, k1, k2⟩ := bl_cells HRE.out
            have k3 := HRE.out.lt
            go_wp2_with fail
            refine bodyPost_ret (v := .tuple #[.agg #[.string nm, .string qv, .bool true], .bool false]) (by simp [results, Try.results82, go_sem, k0, k1, k2, k3]) rfl ⟨nm, qv, true, by rw [HVV.out], (fun h => by rw [HVV.out] at h; cases h), HBE.out⟩
          · have q3 : (0 : Int) < (dQ s : Int) := by omega
            obtain ⟨db, hdb⟩ : ∃ db, decide (s.size - (dN s + 1 + dQ s) = 0) = db := ⟨_, rfl⟩
            have t5 : ((dQ s : Int) == ((fromB s (dN s + 1)).size : Int)) = db := by rw [← hdb, Bool.eq_iff_iff, beq_iff_eq, decide_eq_true_iff]; rw [fromB_size] at hql ⊢; omega
            have HDB := Kp.mk hdb
            clear hdb
            have HBE := Kp.mk (below_set3 HB9.out (.string nm) (.string qv) (.bool true))
            have HRE := Kp.mk (bl_set3 HR9.out (.string nm) (.string qv) (.bool true))
            have HVV := Kp.mk (show okD s = db by rw [HOK2.out, HDB.out, decide_eq_true hq]; rfl)
            obtain ⟨k0, k1, k2⟩ := bl_cells HRE.out
            have k3 := HRE.out.lt
            go_wp2_with fail
            refine bodyPost_ret (v := .tuple #[.agg #[.string nm, .string qv, .bool true], .bool db]) (by simp [results, Try.results82, go_sem, k0, k1, k2, k3]) rfl ⟨nm, qv, true, by rw [HVV.out], fun _ => ⟨HNE.out, HVL2.out.symm, HS.out.symm⟩, HBE.out⟩
        · have q2 : (0 : Int) < (dK s : Int) := by omega
          obtain ⟨db, hdb⟩ : ∃ db, decide (dK s = s.size - (dN s + 1)) = db := ⟨_, rfl⟩
          have t5 : ((dK s : Int) == ((fromB s (dN s + 1)).size : Int)) = db := by rw [← hdb, Bool.eq_iff_iff, beq_iff_eq, decide_eq_true_iff, fromB_size]; omega
          have HDB := Kp.mk hdb
          clear hdb
          have HBE := Kp.mk (below_set3 HB7.out (.string nm) (.string tv) (.bool true))
          have HRE := Kp.mk (bl_set3 HR7.out (.string nm) (.string tv) (.bool true))
          have HVV := Kp.mk (show okD s = db by rw [HOK.out, if_pos hk, HDB.out])
          obtain ⟨k0, k1, k2⟩ := bl_cells HRE.out
          have k3 := HRE.out.lt
          go_wp2_with fail
          refine bodyPost_ret (v := .tuple #[.agg #[.string nm, .string tv, .bool true], .bool db]) (by simp [results, Try.results82, go_sem, k0, k1, k2, k3]) rfl ⟨nm, tv, true, by rw [HVV.out], fun _ => ⟨HNE.out, by rw [HVL.out, if_pos hk], HS.out.symm⟩, HBE.out⟩
      · have t3 : ((s[dN s].toNat : Int) != 61) = true := by rw [bt_at, bne_iff_ne]; omega
        have HS := Kp.mk (setD_no (s := s) (fun h => hb h.2))
        have HOK := Kp.mk (okD_plain HS.out).1
        clear hb
        have HBE := Kp.mk (below_set3 HBA.out (.string nm) (.string ⟨#[]⟩) (.bool false))
        have HRE := Kp.mk (bl_set3 HRA.out (.string nm) (.string ⟨#[]⟩) (.bool false))
        have HVV := Kp.mk (show okD s = false by rw [HOK.out, decide_eq_false (p := s.size - dN s = 0) (by omega)]; simp)
        obtain ⟨k0, k1, k2⟩ := bl_cells HRE.out
        have k3 := HRE.out.lt
        go_wp2_with fail
        refine bodyPost_ret (v := .tuple #[.agg #[.string nm, .string ⟨#[]⟩, .bool false], .bool false]) (by simp [results, Try.results82, go_sem, k0, k1, k2, k3]) rfl ⟨nm, ⟨#[]⟩, false, by rw [HVV.out], (fun h => by rw [HVV.out] at h; cases h), HBE.out⟩
    · have t2 : ((dN s : Int) == (s.size : Int)) = true := eqi (by omega)
      have HS := Kp.mk (setD_no (s := s) (fun h => hlt h.1))
      have HOK := Kp.mk (okD_plain HS.out)
      have HBE := Kp.mk (below_set3 HBA.out (.string nm) (.string ⟨#[]⟩) (.bool false))
      have HRE := Kp.mk (bl_set3 HRA.out (.string nm) (.string ⟨#[]⟩) (.bool false))
      have HVV := Kp.mk (show okD s = true by rw [HOK.out.1, decide_eq_true hn, decide_eq_true (p := s.size - dN s = 0) (by omega)]; rfl)
      obtain ⟨k0, k1, k2⟩ := bl_cells HRE.out
      have k3 := HRE.out.lt
      go_wp2_with fail
      refine bodyPost_ret (v := .tuple #[.agg #[.string nm, .string ⟨#[]⟩, .bool false], .bool true]) (by simp [results, Try.results82, go_sem, k0, k1, k2, k3]) rfl ⟨nm, ⟨#[]⟩, false, by rw [HVV.out], fun _ => ⟨HNE.out, HOK.out.2.symm, HS.out.symm⟩, HBE.out⟩
end Go.Proofs.Ythlkflneldjnjaa
