/- Connections (layer 17): whether one goes on, on both sides. -/
import Derived.Test.YthlkflneldjnjaaCnd
namespace Go.Proofs.Ythlkflneldjnjaa
open Go.RowKit
set_option linter.unusedVariables false
set_option linter.unusedSimpArgs false

def wClose : ByteArray := ⟨#[99, 108, 111, 115, 101]⟩
def wKeep : ByteArray := ⟨#[107, 101, 101, 112, 45, 97, 108, 105, 118, 101]⟩
theorem low_close : lowB wClose = wClose := by decide +kernel
theorem low_keep : lowB wKeep = wKeep := by decide +kernel
theorem conE_ways (v : ByteArray) : conE v = 0 ∨ conE v = 3 := by
  unfold conE
  split
  · exact .inl rfl
  · exact .inr rfl
theorem perB_bad {m : Int} {v : ByteArray} (h : conE v = 3) : perB m v = false := by unfold perB; rw [h]; rfl
theorem perB_good {m : Int} {v : ByteArray} (h : conE v = 0) : perB m v = (!inW wClose (conW v) && (decide (0 < m) || inW wKeep (conW v))) := by unfold perB; rw [h]; rfl
theorem cp1_any (x : ByteArray) (bx : Nat) (a : Option Addr) (c : Nat) (L : List ByteArray) (w : World) (hc : w.cell? ⟨bx, 0, none⟩ = some (.slice a L.length c)) (hr : RdS w (.slice a L.length c) L) (hl : L.length ≤ 100000) :
    Calls Try.prog 63 #[.string x, .pointer (some ⟨bx, 0, none⟩)] w fun e w' => e = .returned (.bool (inW x L)) ∧ w = w' := by
  have HR := Kp.mk hr
  clear hr
  go_enter Try.func63, Try.ntmps63
  go_wp2_with fail
  refine (cont_any _ L x _ HR.out hl).mono ?_
  rintro e w1 ⟨rfl, rfl⟩
  go_wp2_with fail
  go_ret
  exact ⟨rfl, rfl⟩
set_option maxRecDepth 100000 in
set_option maxHeartbeats 1000000 in
theorem cpers_any (m : Int) (vl : Value) (l : List Fld) (w : World) (hv : RdF w vl l) (hF : FewF l) :
    Calls Try.prog 20 #[.int .i64 m, vl] w fun e w' => e = .returned (.bool (perB m (conV l))) ∧ Below w.heap.size w w' := by
  have hvz : (conV l).size ≤ 50100 := hF.comb nmCon
  have hwl := conW_len (conV l)
  have HWY := Kp.mk (conE_ways (conV l))
  have HB0 := Kp.mk (fun h => perB_bad (m := m) (v := conV l) h)
  have HG0 := Kp.mk (fun h => perB_good (m := m) (v := conV l) h)
  have HF := Kp.mk hF
  have HV := Kp.mk hv
  clear hv hF
  go_enter Try.func20, Try.ntmps20
  go_wp2_with fail
  refine (words_any vl l _ HV.out HF.out).mono ?_
  rintro e w1 ⟨u, rfl, ho, hb1⟩
  have HB1 := Kp.mk hb1
  have HR := Kp.mk (rds_own ho)
  obtain ⟨a, c, rfl⟩ := own_lenH ho
  clear ho hb1
  generalize conW (conV l) = L at *
  generalize conE (conV l) = er at *
  have hL9 : L.length ≤ 100000 := by omega
  have HBA := Kp.mk (HB1.out.alloc HB1.out.size (.cells #[.slice a L.length c] 25))
  have HRA := Kp.mk (HR.out.below ((Below.refl w1.heap.size w1).alloc (Nat.le_refl _) (.cells #[.slice a L.length c] 25)))
  have HCA := Kp.mk (blk_cell (i := 0) (heap_alloc_new w1 (.cells #[.slice a L.length c] 25)) rfl)
  rcases HWY.out with he | he
  · have HG := Kp.mk (HG0.out he)
    subst he
    go_wp2_with fail
    refine (cp1_any wClose _ a c L _ HCA.out HRA.out hL9).mono ?_
    rintro e w2 ⟨rfl, rfl⟩
    cases h1 : inW wClose L
    · rw [h1] at HG
      by_cases hm : 0 < m
      · have HX := Kp.mk (HG.out.trans (by rw [decide_eq_true hm]))
        go_wp2_with fail
        go_ret
        exact ⟨by rw [HX.out]; rfl, HBA.out⟩
      · have HX := Kp.mk (HG.out.trans (by rw [decide_eq_false hm]))
        have hm2 : decide (0 < m) = false := decide_eq_false hm
        go_wp2_with fail
        refine (cp1_any wKeep _ a c L _ HCA.out HRA.out hL9).mono ?_
        rintro e w3 ⟨rfl, rfl⟩
        generalize inW wKeep L = kb at *
        go_wp2_with fail
        go_ret
        exact ⟨by rw [HX.out]; rfl, HBA.out⟩
    · rw [h1] at HG
      have HX := Kp.mk (HG.out.trans rfl)
      go_wp2_with fail
      go_ret
      exact ⟨by rw [HX.out]; rfl, HBA.out⟩
  · have HX := Kp.mk (HB0.out he)
    subst he
    go_wp2_with fail
    go_ret
    exact ⟨by rw [HX.out]; rfl, HBA.out⟩
set_option maxRecDepth 100000 in
set_option maxHeartbeats 1000000 in
theorem rcpers_any (m : Int) (vl : Value) (l : List Fld) (w : World) (hv : RdF w vl l) (hF : FewF l) :
    Calls Try.prog 21 #[.int .i64 m, vl] w fun e w' => e = .returned (.bool (perB m (conV l))) ∧ Below w.heap.size w w' := by
  have HWY := Kp.mk (conE_ways (conV l))
  have HB0 := Kp.mk (fun h => perB_bad (m := m) (v := conV l) h)
  have HG0 := Kp.mk (fun h => perB_good (m := m) (v := conV l) h)
  have HF := Kp.mk hF
  have HV := Kp.mk hv
  clear hv hF
  go_enter Try.func21, Try.ntmps21
  go_wp2_with fail
  refine (rwords_any vl l _ HV.out HF.out).mono ?_
  rintro e w1 ⟨u, rfl, ho, hb1⟩
  have HB1 := Kp.mk hb1
  obtain ⟨a, c, rfl⟩ := own_lenH ho
  clear ho hb1
  have hcl := fun W (h : RdF W vl l) => rchas_any vl l wClose W h HF.out (by decide)
  have hkl := fun W (h : RdF W vl l) => rchas_any vl l wKeep W h HF.out (by decide)
  rw [low_close] at hcl
  rw [low_keep] at hkl
  have HCL := Kp.mk hcl
  have HKL := Kp.mk hkl
  clear hcl hkl
  generalize conW (conV l) = L at *
  generalize conE (conV l) = er at *
  rcases HWY.out with he | he
  · have HG := Kp.mk (HG0.out he)
    subst he
    go_wp2_with fail
    refine (HCL.out _ (HV.out.below HB1.out)).mono ?_
    rintro e w2 ⟨rfl, hb2⟩
    have HB2 := Kp.mk (HB1.out.trans (hb2.mono HB1.out.size))
    clear hb2
    cases h1 : inW wClose L
    · rw [h1] at HG
      by_cases hm : 0 < m
      · have HX := Kp.mk (HG.out.trans (by rw [decide_eq_true hm]))
        go_wp2_with fail
        go_ret
        exact ⟨by rw [HX.out]; rfl, HB2.out⟩
      · have HX := Kp.mk (HG.out.trans (by rw [decide_eq_false hm]))
        have hm2 : decide (0 < m) = false := decide_eq_false hm
        go_wp2_with fail
        refine (HKL.out _ (HV.out.below HB2.out)).mono ?_
        rintro e w3 ⟨rfl, hb3⟩
        have HB3 := Kp.mk (HB2.out.trans (hb3.mono HB2.out.size))
        clear hb3
        generalize inW wKeep L = kb at *
        go_wp2_with fail
        go_ret
        exact ⟨by rw [HX.out]; rfl, HB3.out⟩
    · rw [h1] at HG
      have HX := Kp.mk (HG.out.trans rfl)
      go_wp2_with fail
      go_ret
      exact ⟨by rw [HX.out]; rfl, HB2.out⟩
  · have HX := Kp.mk (HB0.out he)
    subst he
    go_wp2_with fail
    go_ret
    exact ⟨by rw [HX.out]; rfl, HB1.out⟩
end Go.Proofs.Ythlkflneldjnjaa
