/- What is said to caches (layer 21): a directive that is read, that has no value. Written by bin/mkcca.py and a cut. -/
import Derived.Test.YtahehpgnemanmaaCcz
namespace Go.Proofs.Ytahehpgnemanmaa
open Go.RowKit
set_option linter.unusedVariables false
set_option linter.unusedSimpArgs false

set_option maxRecDepth 100000 in
set_option maxHeartbeats 4000000 in
theorem one21_no (s : ByteArray) (w : World) (hs : s.size ≤ 1000000) (hset : ¬ (dN s < s.size ∧ bt s (dN s) = 61)) :
    Calls Try.prog 55 #[.string s] w fun e w' => e = .returned (.tuple #[.agg #[.string (nmD s), .string (vlD s), .bool (setD s)], .bool (okD s)]) ∧ Below w.heap.size w w' := by
  have HSET := Kp.mk hset
  clear hset
  go_enter Try.func55, Try.ntmps55
  go_wp2_with fail
  refine (cur_new _ _ (by omega)).mono ?_
  rintro e w1 ⟨rfl, hb1, hc1⟩
  have HC1 := Kp.mk (show CurAt (w.heap.size + 1) s 0 w1 by simpa using hc1)
  have HR1 := Kp.mk ((Bl.new w 74 #[.string ⟨#[]⟩, .string ⟨#[]⟩, .bool false]).below hb1)
  have HB1 := Kp.mk (((Below.refl w.heap.size w).alloc (Nat.le_refl _) (.cells #[.string ⟨#[]⟩, .string ⟨#[]⟩, .bool false] 74)).trans (hb1.mono (by simp)))
  clear hb1 hc1
  have hz1 : w.heap.size + 1 < w1.heap.size := HC1.out.lt
  go_wp2_with fail
  refine (cur_token _ _ _ _ HC1.out).mono ?_
  rintro e w2 ⟨rfl, ht2⟩
  rw [fromB_zero] at ht2 ⊢
  rw [Nat.zero_add] at ht2
  have HC2 := Kp.mk (show CurAt (w.heap.size + 1) s (dN s) w2 from ht2.2)
  have HR2 := Kp.mk (HR1.out.but ht2.1 (by omega))
  have HB2 := Kp.mk (HB1.out.trans (ht2.1.below (B := w.heap.size) (by omega) (by omega)))
  have hz2 : w1.heap.size ≤ w2.heap.size := ht2.1.size
  clear ht2
  have hnm : upB s (preN tcharB s) = upB s (dN s) := rfl
  rw [hnm]
  clear hnm
  have hup : (upB s (dN s)).size ≤ 1000000 := by rw [upB_size]; omega
  have HLE := Kp.mk (low_emp (upB s (dN s)))
  have HUZ := Kp.mk (show (upB s (dN s)).size = dN s by rw [upB_size]; exact Nat.min_eq_left (show dN s ≤ s.size from preN_le _ _))
  have HNZ0 := Kp.mk (show (nmD s).size = dN s by unfold nmD; rw [lowB_size, HUZ.out])
  have HNM := Kp.mk (show nmD s = lowB (upB s (dN s)) from rfl)
  generalize upB s (dN s) = tk at *
  go_wp2_with fail
  refine (oct_lower_any _ _ (by omega)).mono ?_
  rintro e w3 ⟨rfl, hb3⟩
  have HC3 := Kp.mk (HC2.out.kept hb3)
  have HR3 := Kp.mk (HR2.out.below hb3)
  have HB3 := Kp.mk (HB2.out.trans (hb3.mono HB2.out.size))
  have hz3 := hb3.size
  clear hb3
  have HNE := Kp.mk (show lowB tk = nmD s from HNM.out.symm)
  obtain ⟨nm, hnm⟩ : ∃ nm, nm = lowB tk := ⟨_, rfl⟩
  rw [← hnm] at HNE ⊢
  have HNZ := Kp.mk (show nm.toList.isEmpty = decide (dN s = 0) by rw [emp_iff, hnm, lowB_size, HUZ.out])
  clear hnm
  go_upto_region 4 with fail
  have HDA := Kp.mk (Bl.new w3 74 #[.string nm, .string ⟨#[]⟩, .bool false])
  have HCA := Kp.mk (HC3.out.alloc (.cells #[.string nm, .string ⟨#[]⟩, .bool false] 74))
  have HRA := Kp.mk (HR3.out.alloc (.cells #[.string nm, .string ⟨#[]⟩, .bool false] 74))
  have HBA := Kp.mk (HB3.out.alloc HB3.out.size (.cells #[.string nm, .string ⟨#[]⟩, .bool false] 74))
  obtain ⟨wA, hwA⟩ : ∃ wA, wA = w3.alloc (.cells #[.string nm, .string ⟨#[]⟩, .bool false] 74) := ⟨_, rfl⟩
  rw [← hwA] at HDA HCA HRA HBA ⊢
  clear hwA
  have hdA : w.heap.size + 1 < w3.heap.size := by omega
  generalize w3.heap.size = dd at *
  have hset := HSET.out
  · have HS := Kp.mk (show setD s = false by unfold setD; rw [Bool.and_eq_false_iff, decide_eq_false_iff_not, beq_eq_false_iff_ne]; by_cases h1 : dN s < s.size; exact .inr (fun h => hset ⟨h1, h⟩); exact .inl h1)
    have HVL := Kp.mk (show vlD s = ⟨#[]⟩ by unfold vlD; rw [HS.out]; rfl)
    have HEN := Kp.mk (show enD s = dN s by unfold enD; rw [HS.out]; rfl)
    have HOK := Kp.mk (show okD s = (decide (0 < dN s) && decide ((fromB s (dN s)).size = 0)) by unfold okD; rw [HS.out, HEN.out]; simp)
    have hbn : dN s < s.size → ¬ (bt s (dN s) : Int) = 61 := fun h1 h2 => hset ⟨h1, by omega⟩
    clear hset
    go_wp2_with fail
    refine (cur_byte_no _ _ _ _ _ HCA.out hbn).mono ?_
    rintro e w4 ⟨rfl, hb4⟩
    have HD4 := Kp.mk (HDA.out.below hb4)
    have HC4 := Kp.mk (HCA.out.kept hb4)
    have HR4 := Kp.mk (HRA.out.below hb4)
    have HB4 := Kp.mk (HBA.out.trans (hb4.mono HBA.out.size))
    clear hb4
    have d0 : w4.cell? ⟨dd, 0, none⟩ = some (.string nm) := HD4.out.cell 0
    have d1 : w4.cell? ⟨dd, 1, none⟩ = some (.string ⟨#[]⟩) := HD4.out.cell 1
    have d2 : w4.cell? ⟨dd, 2, none⟩ = some (.bool false) := HD4.out.cell 2
    have d3 : w4.frozen? ⟨dd, 2, none⟩ = false := HD4.out.free 2
    go_upto_region 5 with fail
    have HD5 := Kp.mk (HD4.out.set 2 (.bool false))
    have HC5 := Kp.mk (HC4.out.far (g := dd) (by omega) 2 (.bool false))
    have HR5 := Kp.mk (HR4.out.far (p := ⟨dd, 2, none⟩) (by show w.heap.size ≠ dd; omega) (.bool false))
    have HB5 := Kp.mk (HB4.out.setCell (p := ⟨dd, 2, none⟩) (by show w.heap.size ≤ dd; omega) (.bool false))
    clear d0 d1 d2 d3
    obtain ⟨w5, hw5⟩ : ∃ wx, wx = w4.setCell ⟨dd, 2, none⟩ (.bool false) := ⟨_, rfl⟩
    rw [← hw5] at HD5 HC5 HR5 HB5 ⊢
    clear hw5
    replace HD5 : Kp (Bl w5 dd 74 #[.string nm, .string ⟨#[]⟩, .bool false]) := HD5
    have d0 : w5.cell? ⟨dd, 0, none⟩ = some (.string nm) := HD5.out.cell 0
    have d1 : w5.cell? ⟨dd, 1, none⟩ = some (.string ⟨#[]⟩) := HD5.out.cell 1
    have d2 : w5.cell? ⟨dd, 2, none⟩ = some (.bool false) := HD5.out.cell 2
    by_cases hn : dN s = 0
    · have he : nm.toList.isEmpty = true := by rw [HNZ.out]; exact decide_eq_true hn
      rw [show (!nm.toList.isEmpty) = false by rw [he]; rfl]
      have r0 : w5.cell? ⟨w.heap.size, 0, none⟩ = some (.string ⟨#[]⟩) := HR5.out.cell 0
      have r1 : w5.cell? ⟨w.heap.size, 1, none⟩ = some (.string ⟨#[]⟩) := HR5.out.cell 1
      have r2 : w5.cell? ⟨w.heap.size, 2, none⟩ = some (.bool false) := HR5.out.cell 2
      have f0 : w5.frozen? ⟨w.heap.size, 0, none⟩ = false := HR5.out.free 0
      have f1 : w5.frozen? ⟨w.heap.size, 1, none⟩ = false := HR5.out.free 1
      have f2 : w5.frozen? ⟨w.heap.size, 2, none⟩ = false := HR5.out.free 2
      go_upto_region 10 with fail
      go_region
      all_goals
        have HBE := Kp.mk (below_set3 HB5.out (.string nm) (.string ⟨#[]⟩) (.bool false))
        have HRE := Kp.mk (bl_set3 HR5.out (.string nm) (.string ⟨#[]⟩) (.bool false))
        have HVV := Kp.mk (show okD s = false by rw [HOK.out, decide_eq_false (p := 0 < dN s) (by omega)]; rfl)
        obtain ⟨k0, k1, k2⟩ := bl_cells HRE.out
        have k3 := HRE.out.lt
        go_wp2_with fail
        refine bodyPost_ret (v := .tuple #[.agg #[.string nm, .string ⟨#[]⟩, .bool false], .bool false]) (by simp [results, Try.results55, go_sem, k0, k1, k2, k3]) rfl ⟨by rw [HVV.out, HVL.out, HS.out, ← HNE.out], by first | exact HBE.out | exact HBE.out.drew⟩
    · have he : nm.toList.isEmpty = false := by rw [HNZ.out]; exact decide_eq_false hn
      rw [show (!nm.toList.isEmpty) = true by rw [he]; rfl]
      have r0 : w5.cell? ⟨w.heap.size, 0, none⟩ = some (.string ⟨#[]⟩) := HR5.out.cell 0
      have r1 : w5.cell? ⟨w.heap.size, 1, none⟩ = some (.string ⟨#[]⟩) := HR5.out.cell 1
      have r2 : w5.cell? ⟨w.heap.size, 2, none⟩ = some (.bool false) := HR5.out.cell 2
      have f0 : w5.frozen? ⟨w.heap.size, 0, none⟩ = false := HR5.out.free 0
      have f1 : w5.frozen? ⟨w.heap.size, 1, none⟩ = false := HR5.out.free 1
      have f2 : w5.frozen? ⟨w.heap.size, 2, none⟩ = false := HR5.out.free 2
      obtain ⟨db, hdb⟩ : ∃ db, decide ((fromB s (dN s)).size = 0) = db := ⟨_, rfl⟩
      have HCD := Kp.mk (fun W (h : CurAt (w.heap.size + 1) s (dN s) W) => cur_done _ _ _ W h)
      rw [hdb] at HCD
      have HDB := Kp.mk hdb
      clear hdb
      go_upto_region 10 with fail
      have HDD := Kp.mk (show Below w5.heap.size w5 w5.drew from (Below.refl _ _).drew)
      have hne : dd ≠ w.heap.size := by omega
      go_region_held3 (fun w' => w'.cell? ⟨dd, 0, none⟩ = some (.string nm) ∧ w'.cell? ⟨dd, 1, none⟩ = some (.string ⟨#[]⟩) ∧ w'.cell? ⟨dd, 2, none⟩ = some (.bool false))
        ((first | exact bl_cells (HD5.out.below HDD.out) | exact bl_cells (bl_off (HD5.out.below HDD.out) hne _ _ _)))
        ((go_at_call 84; refine (HCD.out _ (HC5.out.kept HDD.out)).mono ?_; rintro e w99 ⟨rfl, hb99⟩; replace HDD := Kp.mk (HDD.out.trans (hb99.mono HDD.out.size)); clear hb99; have g0 := (bl_cells (HR5.out.below HDD.out)).1; have g1 := (bl_cells (HR5.out.below HDD.out)).2.1; have g2 := (bl_cells (HR5.out.below HDD.out)).2.2; have g3 := (HR5.out.below HDD.out).free 0; have g4 := (HR5.out.below HDD.out).free 1; have g5 := (HR5.out.below HDD.out).free 2))
      all_goals
        have HBE := Kp.mk (below_set3 (HB5.out.trans (HDD.out.mono HB5.out.size)) (.string nm) (.string ⟨#[]⟩) (.bool false))
        have HRE := Kp.mk (bl_set3 (HR5.out.below HDD.out) (.string nm) (.string ⟨#[]⟩) (.bool false))
        have HVV := Kp.mk (show okD s = db by rw [HOK.out, HDB.out, decide_eq_true (p := 0 < dN s) (by omega)]; rfl)
        obtain ⟨k0, k1, k2⟩ := bl_cells HRE.out
        have k3 := HRE.out.lt
        go_wp2_with fail
        refine bodyPost_ret (v := .tuple #[.agg #[.string nm, .string ⟨#[]⟩, .bool false], .bool db]) (by simp [results, Try.results55, go_sem, k0, k1, k2, k3]) rfl ⟨by rw [HVV.out, HVL.out, HS.out, ← HNE.out], by first | exact HBE.out | exact HBE.out.drew⟩
end Go.Proofs.Ytahehpgnemanmaa
