/- What is said to caches (layer 21): a directive, as plain functions; its block. · What is said to caches (layer 21): a directive that is read, that has no value. Written by bin/mkcca.py and a cut. · What is said to caches (layer 21): a directive that is read, whose value is quoted. Written by bin/mkcca.py and a cut. · What is said to caches (layer 21): a directive that is read, whose value is a token. Written by bin/mkcca.py and a cut. -/
import Derived.Test.YtgamekfickheaaaGreatPrc
import Derived.Test.YtgamekfickheaaaGreatCna
import Derived.Deep.RegionWith
import Derived.Deep.RegionHeld3
namespace Go.Proofs.YtgamekfickheaaaGreat
open Go.RowKit
set_option linter.unusedVariables false
set_option linter.unusedSimpArgs false

def dN (s : ByteArray) : Nat := preN tcharB s
def dK (s : ByteArray) : Nat := preN tcharB (fromB s (dN s + 1))
def dQ (s : ByteArray) : Nat := quotedN (fromB s (dN s + 1))
def nmD (s : ByteArray) : ByteArray := lowB (upB s (dN s))
def setD (s : ByteArray) : Bool := decide (dN s < s.size) && (bt s (dN s) == 61)
def vlD (s : ByteArray) : ByteArray := if setD s then (if 0 < dK s then upB (fromB s (dN s + 1)) (dK s) else quotedS (fromB s (dN s + 1))) else ⟨#[]⟩
def enD (s : ByteArray) : Nat := if setD s then (if 0 < dK s then dN s + 1 + dK s else dN s + 1 + dQ s) else dN s
/-- P21.1: is it one? -/
def okD (s : ByteArray) : Bool := decide (0 < dN s) && ((!setD s || (decide (0 < dK s) || decide (0 < dQ s))) && decide ((fromB s (enD s)).size = 0))
theorem low_emp (x : ByteArray) : (lowB x).toList = [] ↔ x.size = 0 := by
  rw [ByteArray.toList_eq, ← List.length_eq_zero_iff, ← ba_size, lowB_size]
theorem bl_cells {w : World} {d : Nat} {c0 c1 c2 : Value} (h : Bl w d 57 #[c0, c1, c2]) : w.cell? ⟨d, 0, none⟩ = some c0 ∧ w.cell? ⟨d, 1, none⟩ = some c1 ∧ w.cell? ⟨d, 2, none⟩ = some c2 := ⟨h.cell 0, h.cell 1, h.cell 2⟩
theorem bl_off {w : World} {d h : Nat} {cs : Array Value} (hd : Bl w d 57 cs) (hne : d ≠ h) (a b c : Value) : Bl (((w.setCell ⟨h, 0, none⟩ a).setCell ⟨h, 1, none⟩ b).setCell ⟨h, 2, none⟩ c) d 57 cs :=
  ((hd.far (p := ⟨h, 0, none⟩) hne a).far (p := ⟨h, 1, none⟩) hne b).far (p := ⟨h, 2, none⟩) hne c
theorem bl_set3 {w : World} {h : Nat} {r0 r1 r2 : Value} (hd : Bl w h 57 #[r0, r1, r2]) (a b c : Value) : Bl (((w.setCell ⟨h, 0, none⟩ a).setCell ⟨h, 1, none⟩ b).setCell ⟨h, 2, none⟩ c) h 57 #[a, b, c] :=
  ((hd.set 0 a).set 1 b).set 2 c
theorem below_set3 {w0 w : World} {h : Nat} (hb : Below h w0 w) (a b c : Value) : Below h w0 (((w.setCell ⟨h, 0, none⟩ a).setCell ⟨h, 1, none⟩ b).setCell ⟨h, 2, none⟩ c) :=
  ((hb.setCell (p := ⟨h, 0, none⟩) (Nat.le_refl _) a).setCell (p := ⟨h, 1, none⟩) (Nat.le_refl _) b).setCell (p := ⟨h, 2, none⟩) (Nat.le_refl _) c
end Go.Proofs.YtgamekfickheaaaGreat
namespace Go.Proofs.YtgamekfickheaaaGreat
open Go.RowKit
set_option linter.unusedVariables false
set_option linter.unusedSimpArgs false

set_option maxRecDepth 100000 in
set_option maxHeartbeats 4000000 in
theorem one21_no (s : ByteArray) (w : World) (hs : s.size ≤ 1000000) (hset : ¬ (dN s < s.size ∧ bt s (dN s) = 61)) :
    Calls Tryz.prog 89 #[.string s] w fun e w' => e = .returned (.tuple #[.agg #[.string (nmD s), .string (vlD s), .bool (setD s)], .bool (okD s)]) ∧ Below w.heap.size w w' := by
  have HSET := Kp.mk hset
  clear hset
  go_enter Tryz.func89, Tryz.ntmps89
  go_wp2_with fail
  refine (cur_new _ _ (by omega)).mono ?_
  rintro e w1 ⟨rfl, hb1, hc1⟩
  have HC1 := Kp.mk (show CurAt (w.heap.size + 1) s 0 w1 by simpa using hc1)
  have HR1 := Kp.mk ((Bl.new w 57 #[.string ⟨#[]⟩, .string ⟨#[]⟩, .bool false]).below hb1)
  have HB1 := Kp.mk (((Below.refl w.heap.size w).alloc (Nat.le_refl _) (.cells #[.string ⟨#[]⟩, .string ⟨#[]⟩, .bool false] 57)).trans (hb1.mono (by simp)))
  clear hb1 hc1
  have hz1 : w.heap.size + 1 < w1.heap.size := HC1.out.lt
  go_wp2_with fail
  refine (cur_token _ _ _ _ HC1.out).mono ?_
  rintro e w2 ⟨rfl, ht2⟩
  rw [fromB_zero] at ht2 ⊢
  rw [Nat.zero_add] at ht2
  have HC2 := Kp.mk (show CurAt (w.heap.size + 1) s (dN s) w2 from ht2.2)
  have HR2 := Kp.mk (HR1.out.but ht2.1 (by omega))
  have HB2 := Kp.mk (HB1.out.trans (ht2.1.below (B := w.heap.size) (by omega) (by omega)))
  have hz2 : w1.heap.size ≤ w2.heap.size := ht2.1.size
  clear ht2
  have hnm : upB s (preN tcharB s) = upB s (dN s) := rfl
  rw [hnm]
  clear hnm
  have hup : (upB s (dN s)).size ≤ 1000000 := by rw [upB_size]; omega
  have HLE := Kp.mk (low_emp (upB s (dN s)))
  have HUZ := Kp.mk (show (upB s (dN s)).size = dN s by rw [upB_size]; exact Nat.min_eq_left (show dN s ≤ s.size from preN_le _ _))
  have HNZ0 := Kp.mk (show (nmD s).size = dN s by unfold nmD; rw [lowB_size, HUZ.out])
  have HNM := Kp.mk (show nmD s = lowB (upB s (dN s)) from rfl)
  generalize upB s (dN s) = tk at *
  go_wp2_with fail
  refine (oct_lower_any _ _ (by omega)).mono ?_
  rintro e w3 ⟨rfl, hb3⟩
  have HC3 := Kp.mk (HC2.out.kept hb3)
  have HR3 := Kp.mk (HR2.out.below hb3)
  have HB3 := Kp.mk (HB2.out.trans (hb3.mono HB2.out.size))
  have hz3 := hb3.size
  clear hb3
  have HNE := Kp.mk (show lowB tk = nmD s from HNM.out.symm)
  obtain ⟨nm, hnm⟩ : ∃ nm, nm = lowB tk := ⟨_, rfl⟩
  rw [← hnm] at HNE ⊢
  have HNZ := Kp.mk (show nm.toList.isEmpty = decide (dN s = 0) by rw [emp_iff, hnm, lowB_size, HUZ.out])
  clear hnm
  go_upto_region 4 with fail
  have HDA := Kp.mk (Bl.new w3 57 #[.string nm, .string ⟨#[]⟩, .bool false])
  have HCA := Kp.mk (HC3.out.alloc (.cells #[.string nm, .string ⟨#[]⟩, .bool false] 57))
  have HRA := Kp.mk (HR3.out.alloc (.cells #[.string nm, .string ⟨#[]⟩, .bool false] 57))
  have HBA := Kp.mk (HB3.out.alloc HB3.out.size (.cells #[.string nm, .string ⟨#[]⟩, .bool false] 57))
  obtain ⟨wA, hwA⟩ : ∃ wA, wA = w3.alloc (.cells #[.string nm, .string ⟨#[]⟩, .bool false] 57) := ⟨_, rfl⟩
  rw [← hwA] at HDA HCA HRA HBA ⊢
  clear hwA
  have hdA : w.heap.size + 1 < w3.heap.size := by omega
  generalize w3.heap.size = dd at *
  have hset := HSET.out
  · have HS := Kp.mk (show setD s = false by unfold setD; rw [Bool.and_eq_false_iff, decide_eq_false_iff_not, beq_eq_false_iff_ne]; by_cases h1 : dN s < s.size; exact .inr (fun h => hset ⟨h1, h⟩); exact .inl h1)
    have HVL := Kp.mk (show vlD s = ⟨#[]⟩ by unfold vlD; rw [HS.out]; rfl)
    have HEN := Kp.mk (show enD s = dN s by unfold enD; rw [HS.out]; rfl)
    have HOK := Kp.mk (show okD s = (decide (0 < dN s) && decide ((fromB s (dN s)).size = 0)) by unfold okD; rw [HS.out, HEN.out]; simp)
    have hbn : dN s < s.size → ¬ (bt s (dN s) : Int) = 61 := fun h1 h2 => hset ⟨h1, by omega⟩
    clear hset
    go_wp2_with fail
    refine (cur_byte_no _ _ _ _ _ HCA.out hbn).mono ?_
    rintro e w4 ⟨rfl, hb4⟩
    have HD4 := Kp.mk (HDA.out.below hb4)
    have HC4 := Kp.mk (HCA.out.kept hb4)
    have HR4 := Kp.mk (HRA.out.below hb4)
    have HB4 := Kp.mk (HBA.out.trans (hb4.mono HBA.out.size))
    clear hb4
    have d0 : w4.cell? ⟨dd, 0, none⟩ = some (.string nm) := HD4.out.cell 0
    have d1 : w4.cell? ⟨dd, 1, none⟩ = some (.string ⟨#[]⟩) := HD4.out.cell 1
    have d2 : w4.cell? ⟨dd, 2, none⟩ = some (.bool false) := HD4.out.cell 2
    have d3 : w4.frozen? ⟨dd, 2, none⟩ = false := HD4.out.free 2
    go_upto_region 5 with fail
    have HD5 := Kp.mk (HD4.out.set 2 (.bool false))
    have HC5 := Kp.mk (HC4.out.far (g := dd) (by omega) 2 (.bool false))
    have HR5 := Kp.mk (HR4.out.far (p := ⟨dd, 2, none⟩) (by show w.heap.size ≠ dd; omega) (.bool false))
    have HB5 := Kp.mk (HB4.out.setCell (p := ⟨dd, 2, none⟩) (by show w.heap.size ≤ dd; omega) (.bool false))
    clear d0 d1 d2 d3
    obtain ⟨w5, hw5⟩ : ∃ wx, wx = w4.setCell ⟨dd, 2, none⟩ (.bool false) := ⟨_, rfl⟩
    rw [← hw5] at HD5 HC5 HR5 HB5 ⊢
    clear hw5
    replace HD5 : Kp (Bl w5 dd 57 #[.string nm, .string ⟨#[]⟩, .bool false]) := HD5
    have d0 : w5.cell? ⟨dd, 0, none⟩ = some (.string nm) := HD5.out.cell 0
    have d1 : w5.cell? ⟨dd, 1, none⟩ = some (.string ⟨#[]⟩) := HD5.out.cell 1
    have d2 : w5.cell? ⟨dd, 2, none⟩ = some (.bool false) := HD5.out.cell 2
    by_cases hn : dN s = 0
    · have he : nm.toList.isEmpty = true := by rw [HNZ.out]; exact decide_eq_true hn
      rw [show (!nm.toList.isEmpty) = false by rw [he]; rfl]
      have r0 : w5.cell? ⟨w.heap.size, 0, none⟩ = some (.string ⟨#[]⟩) := HR5.out.cell 0
      have r1 : w5.cell? ⟨w.heap.size, 1, none⟩ = some (.string ⟨#[]⟩) := HR5.out.cell 1
      have r2 : w5.cell? ⟨w.heap.size, 2, none⟩ = some (.bool false) := HR5.out.cell 2
      have f0 : w5.frozen? ⟨w.heap.size, 0, none⟩ = false := HR5.out.free 0
      have f1 : w5.frozen? ⟨w.heap.size, 1, none⟩ = false := HR5.out.free 1
      have f2 : w5.frozen? ⟨w.heap.size, 2, none⟩ = false := HR5.out.free 2
      go_upto_region 10 with fail
      go_region
      all_goals
        have HBE := Kp.mk (below_set3 HB5.out (.string nm) (.string ⟨#[]⟩) (.bool false))
        have HRE := Kp.mk (bl_set3 HR5.out (.string nm) (.string ⟨#[]⟩) (.bool false))
        have HVV := Kp.mk (show okD s = false by rw [HOK.out, decide_eq_false (p := 0 < dN s) (by omega)]; rfl)
        obtain ⟨k0, k1, k2⟩ := bl_cells HRE.out
        have k3 := HRE.out.lt
        go_wp2_with fail
        refine bodyPost_ret (v := .tuple #[.agg #[.string nm, .string ⟨#[]⟩, .bool false], .bool false]) (by simp [results, Tryz.results89, go_sem, k0, k1, k2, k3]) rfl ⟨by rw [HVV.out, HVL.out, HS.out, ← HNE.out], by first | exact HBE.out | exact HBE.out.drew⟩
    · have he : nm.toList.isEmpty = false := by rw [HNZ.out]; exact decide_eq_false hn
      rw [show (!nm.toList.isEmpty) = true by rw [he]; rfl]
      have r0 : w5.cell? ⟨w.heap.size, 0, none⟩ = some (.string ⟨#[]⟩) := HR5.out.cell 0
      have r1 : w5.cell? ⟨w.heap.size, 1, none⟩ = some (.string ⟨#[]⟩) := HR5.out.cell 1
      have r2 : w5.cell? ⟨w.heap.size, 2, none⟩ = some (.bool false) := HR5.out.cell 2
      have f0 : w5.frozen? ⟨w.heap.size, 0, none⟩ = false := HR5.out.free 0
      have f1 : w5.frozen? ⟨w.heap.size, 1, none⟩ = false := HR5.out.free 1
      have f2 : w5.frozen? ⟨w.heap.size, 2, none⟩ = false := HR5.out.free 2
      obtain ⟨db, hdb⟩ : ∃ db, decide ((fromB s (dN s)).size = 0) = db := ⟨_, rfl⟩
      have HCD := Kp.mk (fun W (h : CurAt (w.heap.size + 1) s (dN s) W) => cur_done _ _ _ W h)
      rw [hdb] at HCD
      have HDB := Kp.mk hdb
      clear hdb
      go_upto_region 10 with fail
      have HDD := Kp.mk (show Below w5.heap.size w5 w5.drew from (Below.refl _ _).drew)
      have hne : dd ≠ w.heap.size := by omega
      go_region_held3 (fun w' => w'.cell? ⟨dd, 0, none⟩ = some (.string nm) ∧ w'.cell? ⟨dd, 1, none⟩ = some (.string ⟨#[]⟩) ∧ w'.cell? ⟨dd, 2, none⟩ = some (.bool false))
        ((first | exact bl_cells (HD5.out.below HDD.out) | exact bl_cells (bl_off (HD5.out.below HDD.out) hne _ _ _)))
        ((go_at_call 118; refine (HCD.out _ (HC5.out.kept HDD.out)).mono ?_; rintro e w99 ⟨rfl, hb99⟩; replace HDD := Kp.mk (HDD.out.trans (hb99.mono HDD.out.size)); clear hb99; have g0 := (bl_cells (HR5.out.below HDD.out)).1; have g1 := (bl_cells (HR5.out.below HDD.out)).2.1; have g2 := (bl_cells (HR5.out.below HDD.out)).2.2; have g3 := (HR5.out.below HDD.out).free 0; have g4 := (HR5.out.below HDD.out).free 1; have g5 := (HR5.out.below HDD.out).free 2))
      all_goals
        have HBE := Kp.mk (below_set3 (HB5.out.trans (HDD.out.mono HB5.out.size)) (.string nm) (.string ⟨#[]⟩) (.bool false))
        have HRE := Kp.mk (bl_set3 (HR5.out.below HDD.out) (.string nm) (.string ⟨#[]⟩) (.bool false))
        have HVV := Kp.mk (show okD s = db by rw [HOK.out, HDB.out, decide_eq_true (p := 0 < dN s) (by omega)]; rfl)
        obtain ⟨k0, k1, k2⟩ := bl_cells HRE.out
        have k3 := HRE.out.lt
        go_wp2_with fail
        refine bodyPost_ret (v := .tuple #[.agg #[.string nm, .string ⟨#[]⟩, .bool false], .bool db]) (by simp [results, Tryz.results89, go_sem, k0, k1, k2, k3]) rfl ⟨by rw [HVV.out, HVL.out, HS.out, ← HNE.out], by first | exact HBE.out | exact HBE.out.drew⟩
end Go.Proofs.YtgamekfickheaaaGreat
namespace Go.Proofs.YtgamekfickheaaaGreat
open Go.RowKit
set_option linter.unusedVariables false
set_option linter.unusedSimpArgs false

set_option maxRecDepth 100000 in
set_option maxHeartbeats 4000000 in
theorem one21_quo (s : ByteArray) (w : World) (hs : s.size ≤ 1000000) (hset : dN s < s.size ∧ bt s (dN s) = 61) (hk : dK s = 0) :
    Calls Tryz.prog 89 #[.string s] w fun e w' => e = .returned (.tuple #[.agg #[.string (nmD s), .string (vlD s), .bool (setD s)], .bool (okD s)]) ∧ Below w.heap.size w w' := by
  have HSET := Kp.mk hset
  clear hset
  have HK := Kp.mk hk
  clear hk
  go_enter Tryz.func89, Tryz.ntmps89
  go_wp2_with fail
  refine (cur_new _ _ (by omega)).mono ?_
  rintro e w1 ⟨rfl, hb1, hc1⟩
  have HC1 := Kp.mk (show CurAt (w.heap.size + 1) s 0 w1 by simpa using hc1)
  have HR1 := Kp.mk ((Bl.new w 57 #[.string ⟨#[]⟩, .string ⟨#[]⟩, .bool false]).below hb1)
  have HB1 := Kp.mk (((Below.refl w.heap.size w).alloc (Nat.le_refl _) (.cells #[.string ⟨#[]⟩, .string ⟨#[]⟩, .bool false] 57)).trans (hb1.mono (by simp)))
  clear hb1 hc1
  have hz1 : w.heap.size + 1 < w1.heap.size := HC1.out.lt
  go_wp2_with fail
  refine (cur_token _ _ _ _ HC1.out).mono ?_
  rintro e w2 ⟨rfl, ht2⟩
  rw [fromB_zero] at ht2 ⊢
  rw [Nat.zero_add] at ht2
  have HC2 := Kp.mk (show CurAt (w.heap.size + 1) s (dN s) w2 from ht2.2)
  have HR2 := Kp.mk (HR1.out.but ht2.1 (by omega))
  have HB2 := Kp.mk (HB1.out.trans (ht2.1.below (B := w.heap.size) (by omega) (by omega)))
  have hz2 : w1.heap.size ≤ w2.heap.size := ht2.1.size
  clear ht2
  have hnm : upB s (preN tcharB s) = upB s (dN s) := rfl
  rw [hnm]
  clear hnm
  have hup : (upB s (dN s)).size ≤ 1000000 := by rw [upB_size]; omega
  have HLE := Kp.mk (low_emp (upB s (dN s)))
  have HUZ := Kp.mk (show (upB s (dN s)).size = dN s by rw [upB_size]; exact Nat.min_eq_left (show dN s ≤ s.size from preN_le _ _))
  have HNZ0 := Kp.mk (show (nmD s).size = dN s by unfold nmD; rw [lowB_size, HUZ.out])
  have HNM := Kp.mk (show nmD s = lowB (upB s (dN s)) from rfl)
  generalize upB s (dN s) = tk at *
  go_wp2_with fail
  refine (oct_lower_any _ _ (by omega)).mono ?_
  rintro e w3 ⟨rfl, hb3⟩
  have HC3 := Kp.mk (HC2.out.kept hb3)
  have HR3 := Kp.mk (HR2.out.below hb3)
  have HB3 := Kp.mk (HB2.out.trans (hb3.mono HB2.out.size))
  have hz3 := hb3.size
  clear hb3
  have HNE := Kp.mk (show lowB tk = nmD s from HNM.out.symm)
  obtain ⟨nm, hnm⟩ : ∃ nm, nm = lowB tk := ⟨_, rfl⟩
  rw [← hnm] at HNE ⊢
  have HNZ := Kp.mk (show nm.toList.isEmpty = decide (dN s = 0) by rw [emp_iff, hnm, lowB_size, HUZ.out])
  clear hnm
  go_upto_region 4 with fail
  have HDA := Kp.mk (Bl.new w3 57 #[.string nm, .string ⟨#[]⟩, .bool false])
  have HCA := Kp.mk (HC3.out.alloc (.cells #[.string nm, .string ⟨#[]⟩, .bool false] 57))
  have HRA := Kp.mk (HR3.out.alloc (.cells #[.string nm, .string ⟨#[]⟩, .bool false] 57))
  have HBA := Kp.mk (HB3.out.alloc HB3.out.size (.cells #[.string nm, .string ⟨#[]⟩, .bool false] 57))
  obtain ⟨wA, hwA⟩ : ∃ wA, wA = w3.alloc (.cells #[.string nm, .string ⟨#[]⟩, .bool false] 57) := ⟨_, rfl⟩
  rw [← hwA] at HDA HCA HRA HBA ⊢
  clear hwA
  have hdA : w.heap.size + 1 < w3.heap.size := by omega
  generalize w3.heap.size = dd at *
  have hset := HSET.out
  · have HS := Kp.mk (show setD s = true by unfold setD; rw [hset.2, decide_eq_true hset.1]; rfl)
    have HVL := Kp.mk (show vlD s = if 0 < dK s then upB (fromB s (dN s + 1)) (dK s) else quotedS (fromB s (dN s + 1)) by unfold vlD; rw [HS.out]; rfl)
    have HEN := Kp.mk (show enD s = if 0 < dK s then dN s + 1 + dK s else dN s + 1 + dQ s by unfold enD; rw [HS.out]; rfl)
    have HOK := Kp.mk (show okD s = (decide (0 < dN s) && ((decide (0 < dK s) || decide (0 < dQ s)) && decide ((fromB s (enD s)).size = 0))) by unfold okD; rw [HS.out]; rfl)
    have hby : (bt s (dN s) : Int) = 61 := by rw [hset.2]; rfl
    have hlt := hset.1
    clear hset
    go_wp2_with fail
    refine (cur_byte_yes _ _ _ _ _ HCA.out hlt hby).mono ?_
    rintro e w4 ⟨rfl, ht4⟩
    have HD4 := Kp.mk (HDA.out.but ht4.1 (by omega))
    have HC4 := Kp.mk ht4.2
    have HR4 := Kp.mk (HRA.out.but ht4.1 (by omega))
    have HB4 := Kp.mk (HBA.out.trans (ht4.1.below (B := w.heap.size) (by omega) HBA.out.size))
    clear ht4 hby hlt
    have d0 : w4.cell? ⟨dd, 0, none⟩ = some (.string nm) := HD4.out.cell 0
    have d1 : w4.cell? ⟨dd, 1, none⟩ = some (.string ⟨#[]⟩) := HD4.out.cell 1
    have d2 : w4.cell? ⟨dd, 2, none⟩ = some (.bool false) := HD4.out.cell 2
    have d3 : w4.frozen? ⟨dd, 2, none⟩ = false := HD4.out.free 2
    go_upto_region 5 with fail
    have HD5 := Kp.mk (HD4.out.set 2 (.bool true))
    have HC5 := Kp.mk (HC4.out.far (g := dd) (by omega) 2 (.bool true))
    have HR5 := Kp.mk (HR4.out.far (p := ⟨dd, 2, none⟩) (by show w.heap.size ≠ dd; omega) (.bool true))
    have HB5 := Kp.mk (HB4.out.setCell (p := ⟨dd, 2, none⟩) (by show w.heap.size ≤ dd; omega) (.bool true))
    clear d0 d1 d2 d3
    obtain ⟨w5, hw5⟩ : ∃ wx, wx = w4.setCell ⟨dd, 2, none⟩ (.bool true) := ⟨_, rfl⟩
    rw [← hw5] at HD5 HC5 HR5 HB5 ⊢
    clear hw5
    replace HD5 : Kp (Bl w5 dd 57 #[.string nm, .string ⟨#[]⟩, .bool true]) := HD5
    have d0 : w5.cell? ⟨dd, 0, none⟩ = some (.string nm) := HD5.out.cell 0
    have d1 : w5.cell? ⟨dd, 1, none⟩ = some (.string ⟨#[]⟩) := HD5.out.cell 1
    have d2 : w5.cell? ⟨dd, 2, none⟩ = some (.bool true) := HD5.out.cell 2
    go_wp2_with fail
    refine (cur_token _ _ _ _ HC5.out).mono ?_
    rintro e w6 ⟨rfl, ht6⟩
    have HTV := Kp.mk (show upB (fromB s (dN s + 1)) (dK s) = upB (fromB s (dN s + 1)) (preN tcharB (fromB s (dN s + 1))) from rfl)
    have HC6 := Kp.mk (show CurAt (w.heap.size + 1) s (dN s + 1 + dK s) w6 from ht6.2)
    have HD6 := Kp.mk (HD5.out.but ht6.1 (by omega))
    have HR6 := Kp.mk (HR5.out.but ht6.1 (by omega))
    have HB6 := Kp.mk (HB5.out.trans (ht6.1.below (B := w.heap.size) (by omega) HB5.out.size))
    clear ht6 d0 d1 d2
    rw [← HTV.out]
    have HTZ := Kp.mk (show (upB (fromB s (dN s + 1)) (dK s)).size = dK s by rw [upB_size]; exact Nat.min_eq_left (show dK s ≤ _ from preN_le _ _))
    have HTE := Kp.mk (show (upB (fromB s (dN s + 1)) (dK s)).toList.isEmpty = decide (dK s = 0) by rw [emp_iff, HTZ.out])
    generalize upB (fromB s (dN s + 1)) (dK s) = tv at *
    have d0 : w6.cell? ⟨dd, 0, none⟩ = some (.string nm) := HD6.out.cell 0
    have d1 : w6.cell? ⟨dd, 1, none⟩ = some (.string ⟨#[]⟩) := HD6.out.cell 1
    have d2 : w6.cell? ⟨dd, 2, none⟩ = some (.bool true) := HD6.out.cell 2
    have d3 : w6.frozen? ⟨dd, 1, none⟩ = false := HD6.out.free 1
    go_upto_region 7 with fail
    have HD7 := Kp.mk (HD6.out.set 1 (.string tv))
    have HC7 := Kp.mk (HC6.out.far (g := dd) (by omega) 1 (.string tv))
    have HR7 := Kp.mk (HR6.out.far (p := ⟨dd, 1, none⟩) (by show w.heap.size ≠ dd; omega) (.string tv))
    have HB7 := Kp.mk (HB6.out.setCell (p := ⟨dd, 1, none⟩) (by show w.heap.size ≤ dd; omega) (.string tv))
    clear d0 d1 d2 d3
    obtain ⟨w7, hw7⟩ : ∃ wx, wx = w6.setCell ⟨dd, 1, none⟩ (.string tv) := ⟨_, rfl⟩
    rw [← hw7] at HD7 HC7 HR7 HB7 ⊢
    clear hw7
    replace HD7 : Kp (Bl w7 dd 57 #[.string nm, .string tv, .bool true]) := HD7
    have d0 : w7.cell? ⟨dd, 0, none⟩ = some (.string nm) := HD7.out.cell 0
    have d1 : w7.cell? ⟨dd, 1, none⟩ = some (.string tv) := HD7.out.cell 1
    have d2 : w7.cell? ⟨dd, 2, none⟩ = some (.bool true) := HD7.out.cell 2
    have hk := HK.out
    · have hte : tv.toList = [] := by have h := HTE.out; rw [decide_eq_true hk] at h; simpa using h
      have HVQ := Kp.mk (show vlD s = quotedS (fromB s (dN s + 1)) by rw [HVL.out, if_neg (by omega)])
      have HEQ := Kp.mk (show enD s = dN s + 1 + dQ s by rw [HEN.out, if_neg (by omega)])
      have HOQ := Kp.mk (show okD s = (decide (0 < dN s) && (decide (0 < dQ s) && decide ((fromB s (dN s + 1 + dQ s)).size = 0))) by rw [HOK.out, HEQ.out, decide_eq_false (p := 0 < dK s) (by omega)]; rfl)
      have hc7 := HC7.out
      rw [hk, Nat.add_zero] at hc7
      have HC7b := Kp.mk hc7
      clear hc7
      go_wp2_with fail
      refine (cur_quoted _ _ _ _ HC7b.out (by omega)).mono ?_
      rintro e w8 ⟨rfl, ht8⟩
      have HC8 := Kp.mk (show CurAt (w.heap.size + 1) s (dN s + 1 + dQ s) w8 from ht8.2)
      have HD8 := Kp.mk (HD7.out.but ht8.1 (by omega))
      have HR8 := Kp.mk (HR7.out.but ht8.1 (by omega))
      have HB8 := Kp.mk (HB7.out.trans (ht8.1.below (B := w.heap.size) (by omega) HB7.out.size))
      clear ht8 d0 d1 d2
      generalize quotedS (fromB s (dN s + 1)) = qv at *
      obtain ⟨qb, hqb⟩ : ∃ qb, decide (0 < quotedN (fromB s (dN s + 1))) = qb := ⟨_, rfl⟩
      have HQB := Kp.mk (show decide (0 < dQ s) = qb from hqb)
      rw [hqb]
      clear hqb
      have d0 : w8.cell? ⟨dd, 0, none⟩ = some (.string nm) := HD8.out.cell 0
      have d1 : w8.cell? ⟨dd, 1, none⟩ = some (.string tv) := HD8.out.cell 1
      have d2 : w8.cell? ⟨dd, 2, none⟩ = some (.bool true) := HD8.out.cell 2
      have d3 : w8.frozen? ⟨dd, 1, none⟩ = false := HD8.out.free 1
      by_cases hn : dN s = 0
      · have he : nm.toList.isEmpty = true := by rw [HNZ.out]; exact decide_eq_true hn
        rw [show (!nm.toList.isEmpty) = false by rw [he]; rfl]
        go_upto_region 10 with fail
        have HD9 := Kp.mk (HD8.out.set 1 (.string qv))
        have HC9 := Kp.mk (HC8.out.far (g := dd) (by omega) 1 (.string qv))
        have HR9 := Kp.mk (HR8.out.far (p := ⟨dd, 1, none⟩) (by show w.heap.size ≠ dd; omega) (.string qv))
        have HB9 := Kp.mk (HB8.out.setCell (p := ⟨dd, 1, none⟩) (by show w.heap.size ≤ dd; omega) (.string qv))
        clear d0 d1 d2 d3
        obtain ⟨w9, hw9⟩ : ∃ wx, wx = w8.setCell ⟨dd, 1, none⟩ (.string qv) := ⟨_, rfl⟩
        rw [← hw9] at HD9 HC9 HR9 HB9 ⊢
        clear hw9
        replace HD9 : Kp (Bl w9 dd 57 #[.string nm, .string qv, .bool true]) := HD9
        have d0 : w9.cell? ⟨dd, 0, none⟩ = some (.string nm) := HD9.out.cell 0
        have d1 : w9.cell? ⟨dd, 1, none⟩ = some (.string qv) := HD9.out.cell 1
        have d2 : w9.cell? ⟨dd, 2, none⟩ = some (.bool true) := HD9.out.cell 2
        have r0 : w9.cell? ⟨w.heap.size, 0, none⟩ = some (.string ⟨#[]⟩) := HR9.out.cell 0
        have r1 : w9.cell? ⟨w.heap.size, 1, none⟩ = some (.string ⟨#[]⟩) := HR9.out.cell 1
        have r2 : w9.cell? ⟨w.heap.size, 2, none⟩ = some (.bool false) := HR9.out.cell 2
        have f0 : w9.frozen? ⟨w.heap.size, 0, none⟩ = false := HR9.out.free 0
        have f1 : w9.frozen? ⟨w.heap.size, 1, none⟩ = false := HR9.out.free 1
        have f2 : w9.frozen? ⟨w.heap.size, 2, none⟩ = false := HR9.out.free 2
        go_region
        all_goals
          have HBE := Kp.mk (below_set3 HB9.out (.string nm) (.string qv) (.bool true))
          have HRE := Kp.mk (bl_set3 HR9.out (.string nm) (.string qv) (.bool true))
          have HVV := Kp.mk (show okD s = false by rw [HOQ.out, decide_eq_false (p := 0 < dN s) (by omega)]; rfl)
          obtain ⟨k0, k1, k2⟩ := bl_cells HRE.out
          have k3 := HRE.out.lt
          go_wp2_with fail
          refine bodyPost_ret (v := .tuple #[.agg #[.string nm, .string qv, .bool true], .bool false]) (by simp [results, Tryz.results89, go_sem, k0, k1, k2, k3]) rfl ⟨by rw [HVV.out, HVQ.out, HS.out, ← HNE.out], by first | exact HBE.out | exact HBE.out.drew⟩
      · have he : nm.toList.isEmpty = false := by rw [HNZ.out]; exact decide_eq_false hn
        rw [show (!nm.toList.isEmpty) = true by rw [he]; rfl]
        cases qb
        · go_upto_region 10 with fail
          have HD9 := Kp.mk (HD8.out.set 1 (.string qv))
          have HC9 := Kp.mk (HC8.out.far (g := dd) (by omega) 1 (.string qv))
          have HR9 := Kp.mk (HR8.out.far (p := ⟨dd, 1, none⟩) (by show w.heap.size ≠ dd; omega) (.string qv))
          have HB9 := Kp.mk (HB8.out.setCell (p := ⟨dd, 1, none⟩) (by show w.heap.size ≤ dd; omega) (.string qv))
          clear d0 d1 d2 d3
          obtain ⟨w9, hw9⟩ : ∃ wx, wx = w8.setCell ⟨dd, 1, none⟩ (.string qv) := ⟨_, rfl⟩
          rw [← hw9] at HD9 HC9 HR9 HB9 ⊢
          clear hw9
          replace HD9 : Kp (Bl w9 dd 57 #[.string nm, .string qv, .bool true]) := HD9
          have d0 : w9.cell? ⟨dd, 0, none⟩ = some (.string nm) := HD9.out.cell 0
          have d1 : w9.cell? ⟨dd, 1, none⟩ = some (.string qv) := HD9.out.cell 1
          have d2 : w9.cell? ⟨dd, 2, none⟩ = some (.bool true) := HD9.out.cell 2
          have r0 : w9.cell? ⟨w.heap.size, 0, none⟩ = some (.string ⟨#[]⟩) := HR9.out.cell 0
          have r1 : w9.cell? ⟨w.heap.size, 1, none⟩ = some (.string ⟨#[]⟩) := HR9.out.cell 1
          have r2 : w9.cell? ⟨w.heap.size, 2, none⟩ = some (.bool false) := HR9.out.cell 2
          have f0 : w9.frozen? ⟨w.heap.size, 0, none⟩ = false := HR9.out.free 0
          have f1 : w9.frozen? ⟨w.heap.size, 1, none⟩ = false := HR9.out.free 1
          have f2 : w9.frozen? ⟨w.heap.size, 2, none⟩ = false := HR9.out.free 2
          go_region
          all_goals
            have HBE := Kp.mk (below_set3 HB9.out (.string nm) (.string qv) (.bool true))
            have HRE := Kp.mk (bl_set3 HR9.out (.string nm) (.string qv) (.bool true))
            have HVV := Kp.mk (show okD s = false by rw [HOQ.out, HQB.out]; simp)
            obtain ⟨k0, k1, k2⟩ := bl_cells HRE.out
            have k3 := HRE.out.lt
            go_wp2_with fail
            refine bodyPost_ret (v := .tuple #[.agg #[.string nm, .string qv, .bool true], .bool false]) (by simp [results, Tryz.results89, go_sem, k0, k1, k2, k3]) rfl ⟨by rw [HVV.out, HVQ.out, HS.out, ← HNE.out], by first | exact HBE.out | exact HBE.out.drew⟩
        · go_upto_region 10 with fail
          have HD9 := Kp.mk (HD8.out.set 1 (.string qv))
          have HC9 := Kp.mk (HC8.out.far (g := dd) (by omega) 1 (.string qv))
          have HR9 := Kp.mk (HR8.out.far (p := ⟨dd, 1, none⟩) (by show w.heap.size ≠ dd; omega) (.string qv))
          have HB9 := Kp.mk (HB8.out.setCell (p := ⟨dd, 1, none⟩) (by show w.heap.size ≤ dd; omega) (.string qv))
          clear d0 d1 d2 d3
          obtain ⟨w9, hw9⟩ : ∃ wx, wx = w8.setCell ⟨dd, 1, none⟩ (.string qv) := ⟨_, rfl⟩
          rw [← hw9] at HD9 HC9 HR9 HB9 ⊢
          clear hw9
          replace HD9 : Kp (Bl w9 dd 57 #[.string nm, .string qv, .bool true]) := HD9
          have d0 : w9.cell? ⟨dd, 0, none⟩ = some (.string nm) := HD9.out.cell 0
          have d1 : w9.cell? ⟨dd, 1, none⟩ = some (.string qv) := HD9.out.cell 1
          have d2 : w9.cell? ⟨dd, 2, none⟩ = some (.bool true) := HD9.out.cell 2
          have r0 : w9.cell? ⟨w.heap.size, 0, none⟩ = some (.string ⟨#[]⟩) := HR9.out.cell 0
          have r1 : w9.cell? ⟨w.heap.size, 1, none⟩ = some (.string ⟨#[]⟩) := HR9.out.cell 1
          have r2 : w9.cell? ⟨w.heap.size, 2, none⟩ = some (.bool false) := HR9.out.cell 2
          have f0 : w9.frozen? ⟨w.heap.size, 0, none⟩ = false := HR9.out.free 0
          have f1 : w9.frozen? ⟨w.heap.size, 1, none⟩ = false := HR9.out.free 1
          have f2 : w9.frozen? ⟨w.heap.size, 2, none⟩ = false := HR9.out.free 2
          obtain ⟨db, hdb⟩ : ∃ db, decide ((fromB s (dN s + 1 + dQ s)).size = 0) = db := ⟨_, rfl⟩
          have HCD := Kp.mk (fun W (h : CurAt (w.heap.size + 1) s (dN s + 1 + dQ s) W) => cur_done _ _ _ W h)
          rw [hdb] at HCD
          have HDB := Kp.mk hdb
          clear hdb
          have HDD := Kp.mk (show Below w9.heap.size w9 w9.drew from (Below.refl _ _).drew)
          have hne : dd ≠ w.heap.size := by omega
          go_region_held3 (fun w' => w'.cell? ⟨dd, 0, none⟩ = some (.string nm) ∧ w'.cell? ⟨dd, 1, none⟩ = some (.string qv) ∧ w'.cell? ⟨dd, 2, none⟩ = some (.bool true))
            ((first | exact bl_cells (HD9.out.below HDD.out) | exact bl_cells (bl_off (HD9.out.below HDD.out) hne _ _ _)))
            ((go_at_call 118; refine (HCD.out _ (HC9.out.kept HDD.out)).mono ?_; rintro e w99 ⟨rfl, hb99⟩; replace HDD := Kp.mk (HDD.out.trans (hb99.mono HDD.out.size)); clear hb99; have g0 := (bl_cells (HR9.out.below HDD.out)).1; have g1 := (bl_cells (HR9.out.below HDD.out)).2.1; have g2 := (bl_cells (HR9.out.below HDD.out)).2.2; have g3 := (HR9.out.below HDD.out).free 0; have g4 := (HR9.out.below HDD.out).free 1; have g5 := (HR9.out.below HDD.out).free 2))
          all_goals
            have HBE := Kp.mk (below_set3 (HB9.out.trans (HDD.out.mono HB9.out.size)) (.string nm) (.string qv) (.bool true))
            have HRE := Kp.mk (bl_set3 (HR9.out.below HDD.out) (.string nm) (.string qv) (.bool true))
            have HVV := Kp.mk (show okD s = db by rw [HOQ.out, HQB.out, HDB.out, decide_eq_true (p := 0 < dN s) (by omega)]; rfl)
            obtain ⟨k0, k1, k2⟩ := bl_cells HRE.out
            have k3 := HRE.out.lt
            go_wp2_with fail
            refine bodyPost_ret (v := .tuple #[.agg #[.string nm, .string qv, .bool true], .bool db]) (by simp [results, Tryz.results89, go_sem, k0, k1, k2, k3]) rfl ⟨by rw [HVV.out, HVQ.out, HS.out, ← HNE.out], by first | exact HBE.out | exact HBE.out.drew⟩
end Go.Proofs.YtgamekfickheaaaGreat
namespace Go.Proofs.YtgamekfickheaaaGreat
open Go.RowKit
set_option linter.unusedVariables false
set_option linter.unusedSimpArgs false

set_option maxRecDepth 100000 in
set_option maxHeartbeats 4000000 in
theorem one21_tok (s : ByteArray) (w : World) (hs : s.size ≤ 1000000) (hset : dN s < s.size ∧ bt s (dN s) = 61) (hk : ¬ dK s = 0) :
    Calls Tryz.prog 89 #[.string s] w fun e w' => e = .returned (.tuple #[.agg #[.string (nmD s), .string (vlD s), .bool (setD s)], .bool (okD s)]) ∧ Below w.heap.size w w' := by
  have HSET := Kp.mk hset
  clear hset
  have HK := Kp.mk hk
  clear hk
  go_enter Tryz.func89, Tryz.ntmps89
  go_wp2_with fail
  refine (cur_new _ _ (by omega)).mono ?_
  rintro e w1 ⟨rfl, hb1, hc1⟩
  have HC1 := Kp.mk (show CurAt (w.heap.size + 1) s 0 w1 by simpa using hc1)
  have HR1 := Kp.mk ((Bl.new w 57 #[.string ⟨#[]⟩, .string ⟨#[]⟩, .bool false]).below hb1)
  have HB1 := Kp.mk (((Below.refl w.heap.size w).alloc (Nat.le_refl _) (.cells #[.string ⟨#[]⟩, .string ⟨#[]⟩, .bool false] 57)).trans (hb1.mono (by simp)))
  clear hb1 hc1
  have hz1 : w.heap.size + 1 < w1.heap.size := HC1.out.lt
  go_wp2_with fail
  refine (cur_token _ _ _ _ HC1.out).mono ?_
  rintro e w2 ⟨rfl, ht2⟩
  rw [fromB_zero] at ht2 ⊢
  rw [Nat.zero_add] at ht2
  have HC2 := Kp.mk (show CurAt (w.heap.size + 1) s (dN s) w2 from ht2.2)
  have HR2 := Kp.mk (HR1.out.but ht2.1 (by omega))
  have HB2 := Kp.mk (HB1.out.trans (ht2.1.below (B := w.heap.size) (by omega) (by omega)))
  have hz2 : w1.heap.size ≤ w2.heap.size := ht2.1.size
  clear ht2
  have hnm : upB s (preN tcharB s) = upB s (dN s) := rfl
  rw [hnm]
  clear hnm
  have hup : (upB s (dN s)).size ≤ 1000000 := by rw [upB_size]; omega
  have HLE := Kp.mk (low_emp (upB s (dN s)))
  have HUZ := Kp.mk (show (upB s (dN s)).size = dN s by rw [upB_size]; exact Nat.min_eq_left (show dN s ≤ s.size from preN_le _ _))
  have HNZ0 := Kp.mk (show (nmD s).size = dN s by unfold nmD; rw [lowB_size, HUZ.out])
  have HNM := Kp.mk (show nmD s = lowB (upB s (dN s)) from rfl)
  generalize upB s (dN s) = tk at *
  go_wp2_with fail
  refine (oct_lower_any _ _ (by omega)).mono ?_
  rintro e w3 ⟨rfl, hb3⟩
  have HC3 := Kp.mk (HC2.out.kept hb3)
  have HR3 := Kp.mk (HR2.out.below hb3)
  have HB3 := Kp.mk (HB2.out.trans (hb3.mono HB2.out.size))
  have hz3 := hb3.size
  clear hb3
  have HNE := Kp.mk (show lowB tk = nmD s from HNM.out.symm)
  obtain ⟨nm, hnm⟩ : ∃ nm, nm = lowB tk := ⟨_, rfl⟩
  rw [← hnm] at HNE ⊢
  have HNZ := Kp.mk (show nm.toList.isEmpty = decide (dN s = 0) by rw [emp_iff, hnm, lowB_size, HUZ.out])
  clear hnm
  go_upto_region 4 with fail
  have HDA := Kp.mk (Bl.new w3 57 #[.string nm, .string ⟨#[]⟩, .bool false])
  have HCA := Kp.mk (HC3.out.alloc (.cells #[.string nm, .string ⟨#[]⟩, .bool false] 57))
  have HRA := Kp.mk (HR3.out.alloc (.cells #[.string nm, .string ⟨#[]⟩, .bool false] 57))
  have HBA := Kp.mk (HB3.out.alloc HB3.out.size (.cells #[.string nm, .string ⟨#[]⟩, .bool false] 57))
  obtain ⟨wA, hwA⟩ : ∃ wA, wA = w3.alloc (.cells #[.string nm, .string ⟨#[]⟩, .bool false] 57) := ⟨_, rfl⟩
  rw [← hwA] at HDA HCA HRA HBA ⊢
  clear hwA
  have hdA : w.heap.size + 1 < w3.heap.size := by omega
  generalize w3.heap.size = dd at *
  have hset := HSET.out
  · have HS := Kp.mk (show setD s = true by unfold setD; rw [hset.2, decide_eq_true hset.1]; rfl)
    have HVL := Kp.mk (show vlD s = if 0 < dK s then upB (fromB s (dN s + 1)) (dK s) else quotedS (fromB s (dN s + 1)) by unfold vlD; rw [HS.out]; rfl)
    have HEN := Kp.mk (show enD s = if 0 < dK s then dN s + 1 + dK s else dN s + 1 + dQ s by unfold enD; rw [HS.out]; rfl)
    have HOK := Kp.mk (show okD s = (decide (0 < dN s) && ((decide (0 < dK s) || decide (0 < dQ s)) && decide ((fromB s (enD s)).size = 0))) by unfold okD; rw [HS.out]; rfl)
    have hby : (bt s (dN s) : Int) = 61 := by rw [hset.2]; rfl
    have hlt := hset.1
    clear hset
    go_wp2_with fail
    refine (cur_byte_yes _ _ _ _ _ HCA.out hlt hby).mono ?_
    rintro e w4 ⟨rfl, ht4⟩
    have HD4 := Kp.mk (HDA.out.but ht4.1 (by omega))
    have HC4 := Kp.mk ht4.2
    have HR4 := Kp.mk (HRA.out.but ht4.1 (by omega))
    have HB4 := Kp.mk (HBA.out.trans (ht4.1.below (B := w.heap.size) (by omega) HBA.out.size))
    clear ht4 hby hlt
    have d0 : w4.cell? ⟨dd, 0, none⟩ = some (.string nm) := HD4.out.cell 0
    have d1 : w4.cell? ⟨dd, 1, none⟩ = some (.string ⟨#[]⟩) := HD4.out.cell 1
    have d2 : w4.cell? ⟨dd, 2, none⟩ = some (.bool false) := HD4.out.cell 2
    have d3 : w4.frozen? ⟨dd, 2, none⟩ = false := HD4.out.free 2
    go_upto_region 5 with fail
    have HD5 := Kp.mk (HD4.out.set 2 (.bool true))
    have HC5 := Kp.mk (HC4.out.far (g := dd) (by omega) 2 (.bool true))
    have HR5 := Kp.mk (HR4.out.far (p := ⟨dd, 2, none⟩) (by show w.heap.size ≠ dd; omega) (.bool true))
    have HB5 := Kp.mk (HB4.out.setCell (p := ⟨dd, 2, none⟩) (by show w.heap.size ≤ dd; omega) (.bool true))
    clear d0 d1 d2 d3
    obtain ⟨w5, hw5⟩ : ∃ wx, wx = w4.setCell ⟨dd, 2, none⟩ (.bool true) := ⟨_, rfl⟩
    rw [← hw5] at HD5 HC5 HR5 HB5 ⊢
    clear hw5
    replace HD5 : Kp (Bl w5 dd 57 #[.string nm, .string ⟨#[]⟩, .bool true]) := HD5
    have d0 : w5.cell? ⟨dd, 0, none⟩ = some (.string nm) := HD5.out.cell 0
    have d1 : w5.cell? ⟨dd, 1, none⟩ = some (.string ⟨#[]⟩) := HD5.out.cell 1
    have d2 : w5.cell? ⟨dd, 2, none⟩ = some (.bool true) := HD5.out.cell 2
    go_wp2_with fail
    refine (cur_token _ _ _ _ HC5.out).mono ?_
    rintro e w6 ⟨rfl, ht6⟩
    have HTV := Kp.mk (show upB (fromB s (dN s + 1)) (dK s) = upB (fromB s (dN s + 1)) (preN tcharB (fromB s (dN s + 1))) from rfl)
    have HC6 := Kp.mk (show CurAt (w.heap.size + 1) s (dN s + 1 + dK s) w6 from ht6.2)
    have HD6 := Kp.mk (HD5.out.but ht6.1 (by omega))
    have HR6 := Kp.mk (HR5.out.but ht6.1 (by omega))
    have HB6 := Kp.mk (HB5.out.trans (ht6.1.below (B := w.heap.size) (by omega) HB5.out.size))
    clear ht6 d0 d1 d2
    rw [← HTV.out]
    have HTZ := Kp.mk (show (upB (fromB s (dN s + 1)) (dK s)).size = dK s by rw [upB_size]; exact Nat.min_eq_left (show dK s ≤ _ from preN_le _ _))
    have HTE := Kp.mk (show (upB (fromB s (dN s + 1)) (dK s)).toList.isEmpty = decide (dK s = 0) by rw [emp_iff, HTZ.out])
    generalize upB (fromB s (dN s + 1)) (dK s) = tv at *
    have d0 : w6.cell? ⟨dd, 0, none⟩ = some (.string nm) := HD6.out.cell 0
    have d1 : w6.cell? ⟨dd, 1, none⟩ = some (.string ⟨#[]⟩) := HD6.out.cell 1
    have d2 : w6.cell? ⟨dd, 2, none⟩ = some (.bool true) := HD6.out.cell 2
    have d3 : w6.frozen? ⟨dd, 1, none⟩ = false := HD6.out.free 1
    go_upto_region 7 with fail
    have HD7 := Kp.mk (HD6.out.set 1 (.string tv))
    have HC7 := Kp.mk (HC6.out.far (g := dd) (by omega) 1 (.string tv))
    have HR7 := Kp.mk (HR6.out.far (p := ⟨dd, 1, none⟩) (by show w.heap.size ≠ dd; omega) (.string tv))
    have HB7 := Kp.mk (HB6.out.setCell (p := ⟨dd, 1, none⟩) (by show w.heap.size ≤ dd; omega) (.string tv))
    clear d0 d1 d2 d3
    obtain ⟨w7, hw7⟩ : ∃ wx, wx = w6.setCell ⟨dd, 1, none⟩ (.string tv) := ⟨_, rfl⟩
    rw [← hw7] at HD7 HC7 HR7 HB7 ⊢
    clear hw7
    replace HD7 : Kp (Bl w7 dd 57 #[.string nm, .string tv, .bool true]) := HD7
    have d0 : w7.cell? ⟨dd, 0, none⟩ = some (.string nm) := HD7.out.cell 0
    have d1 : w7.cell? ⟨dd, 1, none⟩ = some (.string tv) := HD7.out.cell 1
    have d2 : w7.cell? ⟨dd, 2, none⟩ = some (.bool true) := HD7.out.cell 2
    have hk := HK.out
    · have hte : tv.toList.isEmpty = false := by rw [HTE.out]; exact decide_eq_false hk
      have HVQ := Kp.mk (show vlD s = tv by rw [HVL.out, if_pos (by omega)])
      have HEQ := Kp.mk (show enD s = dN s + 1 + dK s by rw [HEN.out, if_pos (by omega)])
      have HOQ := Kp.mk (show okD s = (decide (0 < dN s) && decide ((fromB s (dN s + 1 + dK s)).size = 0)) by rw [HOK.out, HEQ.out, decide_eq_true (p := 0 < dK s) (by omega), Bool.true_or, Bool.true_and])
      by_cases hn : dN s = 0
      · have he : nm.toList.isEmpty = true := by rw [HNZ.out]; exact decide_eq_true hn
        rw [show (!nm.toList.isEmpty) = false by rw [he]; rfl]
        have r0 : w7.cell? ⟨w.heap.size, 0, none⟩ = some (.string ⟨#[]⟩) := HR7.out.cell 0
        have r1 : w7.cell? ⟨w.heap.size, 1, none⟩ = some (.string ⟨#[]⟩) := HR7.out.cell 1
        have r2 : w7.cell? ⟨w.heap.size, 2, none⟩ = some (.bool false) := HR7.out.cell 2
        have f0 : w7.frozen? ⟨w.heap.size, 0, none⟩ = false := HR7.out.free 0
        have f1 : w7.frozen? ⟨w.heap.size, 1, none⟩ = false := HR7.out.free 1
        have f2 : w7.frozen? ⟨w.heap.size, 2, none⟩ = false := HR7.out.free 2
        go_upto_region 10 with fail
        go_region
        all_goals
          have HBE := Kp.mk (below_set3 HB7.out (.string nm) (.string tv) (.bool true))
          have HRE := Kp.mk (bl_set3 HR7.out (.string nm) (.string tv) (.bool true))
          have HVV := Kp.mk (show okD s = false by rw [HOQ.out, decide_eq_false (p := 0 < dN s) (by omega)]; rfl)
          obtain ⟨k0, k1, k2⟩ := bl_cells HRE.out
          have k3 := HRE.out.lt
          go_wp2_with fail
          refine bodyPost_ret (v := .tuple #[.agg #[.string nm, .string tv, .bool true], .bool false]) (by simp [results, Tryz.results89, go_sem, k0, k1, k2, k3]) rfl ⟨by rw [HVV.out, HVQ.out, HS.out, ← HNE.out], by first | exact HBE.out | exact HBE.out.drew⟩
      · have he : nm.toList.isEmpty = false := by rw [HNZ.out]; exact decide_eq_false hn
        rw [show (!nm.toList.isEmpty) = true by rw [he]; rfl]
        have r0 : w7.cell? ⟨w.heap.size, 0, none⟩ = some (.string ⟨#[]⟩) := HR7.out.cell 0
        have r1 : w7.cell? ⟨w.heap.size, 1, none⟩ = some (.string ⟨#[]⟩) := HR7.out.cell 1
        have r2 : w7.cell? ⟨w.heap.size, 2, none⟩ = some (.bool false) := HR7.out.cell 2
        have f0 : w7.frozen? ⟨w.heap.size, 0, none⟩ = false := HR7.out.free 0
        have f1 : w7.frozen? ⟨w.heap.size, 1, none⟩ = false := HR7.out.free 1
        have f2 : w7.frozen? ⟨w.heap.size, 2, none⟩ = false := HR7.out.free 2
        obtain ⟨db, hdb⟩ : ∃ db, decide ((fromB s (dN s + 1 + dK s)).size = 0) = db := ⟨_, rfl⟩
        have HCD := Kp.mk (fun W (h : CurAt (w.heap.size + 1) s (dN s + 1 + dK s) W) => cur_done _ _ _ W h)
        rw [hdb] at HCD
        have HDB := Kp.mk hdb
        clear hdb
        go_upto_region 10 with fail
        have HDD := Kp.mk (show Below w7.heap.size w7 w7.drew from (Below.refl _ _).drew)
        have hne : dd ≠ w.heap.size := by omega
        go_region_held3 (fun w' => w'.cell? ⟨dd, 0, none⟩ = some (.string nm) ∧ w'.cell? ⟨dd, 1, none⟩ = some (.string tv) ∧ w'.cell? ⟨dd, 2, none⟩ = some (.bool true))
          ((first | exact bl_cells (HD7.out.below HDD.out) | exact bl_cells (bl_off (HD7.out.below HDD.out) hne _ _ _)))
          ((go_at_call 118; refine (HCD.out _ (HC7.out.kept HDD.out)).mono ?_; rintro e w99 ⟨rfl, hb99⟩; replace HDD := Kp.mk (HDD.out.trans (hb99.mono HDD.out.size)); clear hb99; have g0 := (bl_cells (HR7.out.below HDD.out)).1; have g1 := (bl_cells (HR7.out.below HDD.out)).2.1; have g2 := (bl_cells (HR7.out.below HDD.out)).2.2; have g3 := (HR7.out.below HDD.out).free 0; have g4 := (HR7.out.below HDD.out).free 1; have g5 := (HR7.out.below HDD.out).free 2))
        all_goals
          have HBE := Kp.mk (below_set3 (HB7.out.trans (HDD.out.mono HB7.out.size)) (.string nm) (.string tv) (.bool true))
          have HRE := Kp.mk (bl_set3 (HR7.out.below HDD.out) (.string nm) (.string tv) (.bool true))
          have HVV := Kp.mk (show okD s = db by rw [HOQ.out, HDB.out, decide_eq_true (p := 0 < dN s) (by omega)]; rfl)
          obtain ⟨k0, k1, k2⟩ := bl_cells HRE.out
          have k3 := HRE.out.lt
          go_wp2_with fail
          refine bodyPost_ret (v := .tuple #[.agg #[.string nm, .string tv, .bool true], .bool db]) (by simp [results, Tryz.results89, go_sem, k0, k1, k2, k3]) rfl ⟨by rw [HVV.out, HVQ.out, HS.out, ← HNE.out], by first | exact HBE.out | exact HBE.out.drew⟩
end Go.Proofs.YtgamekfickheaaaGreat
