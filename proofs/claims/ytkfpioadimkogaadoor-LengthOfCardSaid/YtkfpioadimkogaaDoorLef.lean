/- Lengths (layer 18): Set on both sides; the document's examples; the laws LengthOf and LengthSet. -/
import Derived.Test.YtkfpioadimkogaaDoorLee
import Derived.Test.YtkfpioadimkogaaDoorCna
import Derived.Test.YtkfpioadimkogaaDoorLaw2
import Derived.Test.YtkfpioadimkogaaDoorHdd
namespace Go.Proofs.YtkfpioadimkogaaDoor
open Go.RowKit
set_option linter.unusedVariables false
set_option linter.unusedSimpArgs false

def txN (n : Int) : ByteArray := ofL (textL n)
theorem txN_le (n : Int) : (txN n).size ≤ 21 := by unfold txN; rw [ofL_size]; exact textL_len n
def stL (l : List Fld) (n : Int) : List Fld := hWo l [nmCL] ++ [(nmCL, txN n)]
theorem stL_sm {l : List Fld} (n : Int) (h : ∀ p ∈ l, FldSm p) : ∀ p ∈ stL l n, FldSm p := fun p hp => by
  unfold stL at hp
  rcases List.mem_append.1 hp with hp | hp
  · exact h p (List.mem_filter.1 hp).1
  · simp at hp; subst hp
    exact ⟨show nmCL.size ≤ 100000 by decide, by have := txN_le n; show (txN n).size ≤ _; omega⟩
theorem stL_len (l : List Fld) (n : Int) : (stL l n).length ≤ l.length + 1 := by
  unfold stL
  rw [List.length_append]
  have := hWo_len l [nmCL]
  simp; omega
theorem rds_oneL (w : World) (x : ByteArray) : RdS (w.alloc (.cells #[.string x] 9)) (.slice (some ⟨w.heap.size, 0, none⟩) 1 1) [x] :=
  rds_own (l := [x]) (World.ownsRow_lit (base := w.heap.size) (e := 9) (size := 1) w #[.string x] 1 (Nat.le_refl _) (by unfold maxLen; omega) rfl)
set_option maxRecDepth 100000 in
theorem lset_any (v : Value) (l : List Fld) (n : Int) (w : World) (hv : RdF w v l) (hz : ∀ p ∈ l, FldSm p) (hl : l.length ≤ 1000) (h0 : -9223372036854775808 ≤ n) (h1 : n ≤ 9223372036854775807) :
    Calls Tryd.prog 23 #[v, .int .i64 n] w (RetF (stL l n) w) := by
  have HV := Kp.mk hv
  have HW := Kp.mk (fun w u hv hu => hwo_any v u l [nmCL] w hv hu hz (by simp; decide) (by omega) (by simp))
  have HT := Kp.mk (fun w => text_any n w h0 h1)
  have HWI := Kp.mk (fun u w hv => hwith_any u (hWo l [nmCL]) nmCL (txN n) w hv (by have := hWo_len l [nmCL]; omega))
  have HS := Kp.mk (show stL l n = hWo l [nmCL] ++ [(nmCL, txN n)] from rfl)
  unfold RetF at HW HWI
  have HB0 := Kp.mk ((Below.refl w.heap.size w).alloc (Nat.le_refl _) (.cells #[.string nmCL] 9))
  have HO0 := Kp.mk (rds_oneL w nmCL)
  obtain ⟨ad, cap, rfl, -, -, -⟩ := hv
  rw [← HS.out] at HWI
  generalize hWo l [nmCL] = P at *
  generalize stL l n = S at *
  go_enter Tryd.func23, Tryd.ntmps23
  go_wp2_with fail
  refine (HW.out _ _ (HV.out.below HB0.out) HO0.out).mono ?_
  rintro e w1 ⟨u, rfl, ho, hb⟩
  have B1 := Kp.mk (HB0.out.trans (hb.mono HB0.out.size))
  have R1 := Kp.mk (rdf_own ho)
  obtain ⟨a1, c1, rfl⟩ := own_lenH ho
  clear ho hb
  go_wp2_with fail
  refine (HT.out _).mono ?_
  rintro e w2 ⟨rfl, hb⟩
  have B2 := Kp.mk (B1.out.trans (hb.mono B1.out.size))
  replace R1 := Kp.mk (R1.out.below hb)
  clear hb
  go_wp2_with fail
  refine (HWI.out _ _ R1.out).mono ?_
  rintro e w3 ⟨u, rfl, ho, hb⟩
  have B3 := Kp.mk (B2.out.trans (hb.mono B2.out.size))
  have O3 := Kp.mk (own_low ho B2.out.size)
  obtain ⟨a3, c3, rfl⟩ := own_lenH ho
  clear ho hb
  go_wp2_with fail
  go_ret
  exact ⟨_, rfl, O3.out, B3.out⟩
set_option maxRecDepth 100000 in
theorem rlset_any (v : Value) (l : List Fld) (n : Int) (w : World) (hv : RdF w v l) (hz : ∀ p ∈ l, FldSm p) (hl : l.length ≤ 1000) (h0 : -9223372036854775808 ≤ n) (h1 : n ≤ 9223372036854775807) :
    Calls Tryd.prog 24 #[v, .int .i64 n] w (RetF (stL l n) w) := by
  have HV := Kp.mk hv
  have HW := Kp.mk (fun w u hv hu => rhwo_any v u l [nmCL] w hv hu hz (by simp; decide) (by omega) (by simp))
  have HT := Kp.mk (fun w => rtext_any n w h0 h1)
  have HWI := Kp.mk (fun u w hv => rhwith_any u (hWo l [nmCL]) nmCL (txN n) w hv (by have := hWo_len l [nmCL]; omega))
  have HS := Kp.mk (show stL l n = hWo l [nmCL] ++ [(nmCL, txN n)] from rfl)
  unfold RetF at HW HWI
  have HB0 := Kp.mk ((Below.refl w.heap.size w).alloc (Nat.le_refl _) (.cells #[.string nmCL] 9))
  have HO0 := Kp.mk (rds_oneL w nmCL)
  obtain ⟨ad, cap, rfl, -, -, -⟩ := hv
  rw [← HS.out] at HWI
  generalize hWo l [nmCL] = P at *
  generalize stL l n = S at *
  go_enter Tryd.func24, Tryd.ntmps24
  go_wp2_with fail
  refine (HW.out _ _ (HV.out.below HB0.out) HO0.out).mono ?_
  rintro e w1 ⟨u, rfl, ho, hb⟩
  have B1 := Kp.mk (HB0.out.trans (hb.mono HB0.out.size))
  have R1 := Kp.mk (rdf_own ho)
  obtain ⟨a1, c1, rfl⟩ := own_lenH ho
  clear ho hb
  go_wp2_with fail
  refine (HT.out _).mono ?_
  rintro e w2 ⟨rfl, hb⟩
  have B2 := Kp.mk (B1.out.trans (hb.mono B1.out.size))
  replace R1 := Kp.mk (R1.out.below hb)
  clear hb
  go_wp2_with fail
  refine (HWI.out _ _ R1.out).mono ?_
  rintro e w3 ⟨u, rfl, ho, hb⟩
  have B3 := Kp.mk (B2.out.trans (hb.mono B2.out.size))
  have O3 := Kp.mk (own_low ho B2.out.size)
  obtain ⟨a3, c3, rfl⟩ := own_lenH ho
  clear ho hb
  go_wp2_with fail
  go_ret
  exact ⟨_, rfl, O3.out, B3.out⟩
/-! ### The examples -/
def exLA : List Fld := [(nmCL, ⟨#[53, 44, 32, 48, 48, 53]⟩)]
def exLB : List Fld := [(nmCL, ⟨#[53]⟩), (⟨#[99, 111, 110, 116, 101, 110, 116, 45, 108, 101, 110, 103, 116, 104]⟩, ⟨#[54]⟩)]
theorem exLA_sm : ∀ p ∈ exLA, FldSm p := by intro p hp; simp [exLA] at hp; subst hp; exact ⟨show nmCL.size ≤ 100000 by decide, by decide⟩
theorem exLB_sm : ∀ p ∈ exLB, FldSm p := by
  intro p hp
  simp [exLB] at hp
  rcases hp with rfl | rfl
  · exact ⟨show nmCL.size ≤ 100000 by decide, by decide⟩
  · exact ⟨by decide, by decide⟩
theorem exLA_r : lenF exLA = (5, true, 0) := by decide +kernel
theorem exLB_r : lenF exLB = (0, false, 14) := by decide +kernel
set_option maxRecDepth 100000 in
set_option maxHeartbeats 1000000 in
theorem lives18_any (w : World) : Calls Tryd.prog 19 #[] w fun e w' => e = .returned (.bool true) ∧ Below w.heap.size w w' := by
  have HB0 := Kp.mk ((Below.refl w.heap.size w).alloc (Nat.le_refl _) (.cells (fvH exLA).toArray 59))
  have R0 := Kp.mk (rdf_own (l := exLA) (World.ownsRow_lit (base := w.heap.size) (e := 59) (size := 2) w (fvH exLA).toArray 1 (Nat.le_refl _) (by unfold maxLen; omega) rfl))
  have HA := Kp.mk (fun v w hv => lenof_any v exLA w hv exLA_sm (by decide))
  have HB := Kp.mk (fun v w hv => lenof_any v exLB w hv exLB_sm (by decide))
  unfold RetLn at HA HB
  rw [exLA_r] at HA
  rw [exLB_r] at HB
  go_enter Tryd.func19, Tryd.ntmps19
  go_wp2_with fail
  refine (HA.out _ _ R0.out).mono ?_
  rintro e w1 ⟨rfl, hb1⟩
  have HB1 := Kp.mk (HB0.out.trans (hb1.mono HB0.out.size))
  clear hb1
  have R1 := Kp.mk (rdf_own (l := exLB) (World.ownsRow_lit (base := w1.heap.size) (e := 59) (size := 2) w1 (fvH exLB).toArray 2 (Nat.le_refl _) (by unfold maxLen; omega) rfl))
  have HX1 := Kp.mk (HB1.out.alloc HB1.out.size (.cells (fvH exLB).toArray 59))
  go_wp2_with fail
  refine (HB.out _ _ R1.out).mono ?_
  rintro e w2 ⟨rfl, hb2⟩
  have HB2 := Kp.mk (HX1.out.trans (hb2.mono HX1.out.size))
  clear hb2
  go_wp2_with fail
  go_ret
  exact ⟨rfl, HB2.out⟩
/-! ### The law LengthOf -/
theorem same_flds (l : List Fld) : sameL l l = true := decide_eq_true rfl
set_option maxRecDepth 100000 in
set_option maxHeartbeats 2000000 in
theorem lenof_walk (v : Value) (l : List Fld) (n : Int) (w : World) (hv : RdF w v l) (hz : ∀ p ∈ l, FldOk p) (h0 : -9223372036854775808 ≤ n) (h1 : n ≤ 9223372036854775807) :
    Calls Tryd.prog 4 #[v, .int .i64 n] w fun e w' => e = .returned (.bool true) ∧ Below w.heap.size w w' := by
  have HV := Kp.mk hv
  have HF1 := Kp.mk (few10_any v l w hv hz)
  clear hz
  obtain ⟨ad, cap, rfl, -, -, -⟩ := hv
  go_enter Tryd.func4, Tryd.ntmps4
  cases hfl : hFew l
  · rw [hfl] at HF1
    clear hfl
    go_wp2_with fail
    refine HF1.out.mono ?_
    rintro e w1 ⟨rfl, hb⟩
    have HB1 := Kp.mk hb
    clear hb
    go_wp2_with fail
    refine (lives18_any _).mono ?_
    rintro e w90 ⟨rfl, hb90⟩
    have HB90 := Kp.mk (HB1.out.trans (hb90.mono HB1.out.size))
    clear hb90
    go_wp2_with fail
    go_ret
    exact ⟨rfl, HB90.out⟩
  · rw [hfl] at HF1
    have FW := fewF_of hfl
    have hln := FW.len
    have HA := Kp.mk (fun w hv => lenof_any (.slice ad l.length cap) l w hv FW.sm (by omega))
    have HB := Kp.mk (fun w hv => rlenof_any (.slice ad l.length cap) l w hv FW.sm (by omega))
    have HC := Kp.mk (fun w hv => lset_any (.slice ad l.length cap) l n w hv FW.sm (by omega) h0 h1)
    have HD := Kp.mk (fun w hv => rlset_any (.slice ad l.length cap) l n w hv FW.sm (by omega) h0 h1)
    have hsl := stL_len l n
    unfold RetLn at HA HB
    unfold RetF at HC HD
    generalize lenF l = R at *
    obtain ⟨rn, rh, re⟩ := R
    dsimp only at HA HB
    generalize stL l n = S at *
    clear hfl FW
    go_wp2_with fail
    refine HF1.out.mono ?_
    rintro e w1 ⟨rfl, hb⟩
    have B1 := Kp.mk hb
    clear hb
    go_wp2_with fail
    refine (HA.out _ (HV.out.below B1.out)).mono ?_
    rintro e w2 ⟨rfl, hb⟩
    have B2 := Kp.mk (B1.out.trans (hb.mono B1.out.size))
    clear hb
    go_wp2_with fail
    refine (HB.out _ (HV.out.below B2.out)).mono ?_
    rintro e w3 ⟨rfl, hb⟩
    have B3 := Kp.mk (B2.out.trans (hb.mono B2.out.size))
    clear hb
    go_wp2_with fail
    refine (HC.out _ (HV.out.below B3.out)).mono ?_
    rintro e w4 ⟨u, rfl, ho, hb⟩
    have B4 := Kp.mk (B3.out.trans (hb.mono B3.out.size))
    have R4 := Kp.mk (rdf_own ho)
    obtain ⟨a4, c4, rfl⟩ := own_lenH ho
    clear ho hb
    go_wp2_with fail
    refine (HD.out _ (HV.out.below B4.out)).mono ?_
    rintro e w5 ⟨u, rfl, ho, hb⟩
    have B5 := Kp.mk (B4.out.trans (hb.mono B4.out.size))
    have R5 := Kp.mk (rdf_own ho)
    replace R4 := Kp.mk (R4.out.below hb)
    obtain ⟨a5, c5, rfl⟩ := own_lenH ho
    clear ho hb
    go_wp2_with fail
    refine (rfsame_any _ _ S S _ R4.out R5.out (by omega) (by omega)).mono ?_
    rintro e w6 ⟨rfl, hb⟩
    rw [same_flds]
    have B6 := Kp.mk (B5.out.trans (hb.mono B5.out.size))
    clear hb
    go_wp2_with fail
    refine (lives18_any _).mono ?_
    rintro e w90 ⟨rfl, hb90⟩
    have HB90 := Kp.mk (B6.out.trans (hb90.mono B6.out.size))
    clear hb90
    go_wp2_with fail
    go_ret
    exact ⟨rfl, HB90.out⟩
theorem flds_arg18 (v : Value) (w : World) (h : Arg Tryd.prog w 22 v) : ∃ l, RdF w v l ∧ ∀ p ∈ l, FldOk p :=
  h.list Tryd.underlying22 Tryd.fcellsFld (by omega) fun E hE => fld_of Tryd.underlying59 Tryd.underlying9 Tryd.fcellsFld Tryd.fcellsFs ⟨_, rfl, rfl, rfl⟩ ⟨_, rfl, rfl, rfl⟩ hE
theorem lenof_arg (v0 v1 : Value) (w : World) (h0 : Arg Tryd.prog w 22 v0) (h1 : Arg Tryd.prog w 3 v1) :
    Calls Tryd.prog 4 #[v0, v1] w fun e w' => e = .returned (.bool true) ∧ Below w.heap.size w w' := by
  obtain ⟨l, hv, hz⟩ := flds_arg18 v0 w h0
  obtain ⟨k, rfl, hk⟩ := h1.int Tryd.underlying3
  obtain ⟨b0, b1⟩ := bounds_i64 hk
  exact lenof_walk v0 l k w hv hz b0 b1
end Go.Proofs.YtkfpioadimkogaaDoor
