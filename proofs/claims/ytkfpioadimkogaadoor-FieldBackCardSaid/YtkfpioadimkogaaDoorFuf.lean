/- Lines of fields (layer 9): few; the document's All; the law FieldUnfolds. -/
import Derived.Test.YtkfpioadimkogaaDoorFue
namespace Go.Proofs.YtkfpioadimkogaaDoor
open Go.RowKit
set_option linter.unusedVariables false
set_option linter.unusedSimpArgs false

def fewS (L : List ByteArray) : Bool := decide (L.length ≤ 40) && L.all fun s => decide (s.size ≤ 300)
theorem fewS_big {L : List ByteArray} (h : ¬ L.length ≤ 40) : fewS L = false := by unfold fewS; rw [decide_eq_false h]; rfl
theorem fewS_bad {L : List ByteArray} {k : Nat} (h : k < L.length) (hf : ¬ L[k].size ≤ 300) : fewS L = false := by
  unfold fewS
  rw [Bool.and_eq_false_iff]
  exact .inr (List.all_eq_false.2 ⟨L[k], List.getElem_mem h, by simp; omega⟩)
theorem fewS_all {L : List ByteArray} (h0 : L.length ≤ 40) (h : ∀ x ∈ L, x.size ≤ 300) : fewS L = true := by
  unfold fewS
  rw [decide_eq_true h0, Bool.true_and]
  exact List.all_eq_true.2 fun p hp => decide_eq_true (h p hp)
theorem fewS_out {L : List ByteArray} (h : fewS L = true) : L.length ≤ 40 ∧ ∀ x ∈ L, x.size ≤ 300 := by
  unfold fewS at h
  rw [Bool.and_eq_true] at h
  exact ⟨of_decide_eq_true h.1, fun p hp => of_decide_eq_true (List.all_eq_true.1 h.2 p hp)⟩
set_option maxRecDepth 100000 in
set_option maxHeartbeats 2000000 in
theorem few9_any (v : Value) (L : List ByteArray) (w : World) (hv : RdS w v L) (hz : ∀ x ∈ L, x.size ≤ maxLen) :
    Calls Tryd.prog 25 #[v] w fun e w' => e = .returned (.bool (fewS L)) ∧ Below w.heap.size w w' := by
  have HV := Kp.mk hv
  have HZ := Kp.mk hz
  obtain ⟨a, cap, rfl, hc1, hc2, -⟩ := hv
  clear hz
  go_enter Tryd.func25, Tryd.ntmps25
  by_cases h0 : L.length ≤ 40
  · have q9 : ¬ (40 : Int) < (L.length : Int) := by omega
    go_wp2_with fail
    go_loopw [10] (fun i wr => ∃ k : Nat, k ≤ L.length ∧ i = .int .i64 k ∧ (∀ x ∈ L.take k, x.size ≤ 300) ∧ Below w.heap.size w wr) (fun i _ => L.length - (intOf i).toNat)
    case atStart => exact ⟨0, by omega, rfl, by simp, Below.refl _ _⟩
    case round =>
      obtain ⟨k, hk, rfl, hh, hb⟩ := hrel
      have HB := Kp.mk hb
      have HH := Kp.mk hh
      clear hh hb
      by_cases hlt : k < L.length
      · obtain ⟨g, o, rfl, hgl, d0⟩ := rds_cells (HV.out.below HB.out) (by omega)
        have c1 := d0 k hlt
        have m1 := HZ.out L[k] (List.getElem_mem hlt)
        have q0 : (0 : Int) ≤ (k : Int) := by omega
        have q1 : (k : Int) < (L.length : Int) := by omega
        have HBad := Kp.mk (fewS_bad (L := L) hlt)
        have HTK := Kp.mk (List.take_succ_eq_append_getElem hlt)
        clear d0
        generalize L[k] = x at *
        by_cases hx : x.size ≤ 300
        · have q2 : ¬ (300 : Int) < (x.size : Int) := by omega
          go_wp2_with fail
          go_roundw
          case rel =>
            refine ⟨k + 1, by omega, by go_num, fun y hy => ?_, HB.out⟩
            rw [HTK.out] at hy
            rcases List.mem_append.1 hy with hy | hy
            · exact HH.out y hy
            · simp at hy; subst hy; exact hx
          case measure => simp [intOf]; omega
        · have q2 : (300 : Int) < (x.size : Int) := by omega
          have HT := Kp.mk (HBad.out hx)
          go_wp2_with fail
          go_ret
          exact ⟨by rw [HT.out] <;> rfl, HB.out⟩
      · have HT := Kp.mk (fewS_all h0 (by have := HH.out; rwa [List.take_of_length_le (by omega)] at this))
        go_wp2_with fail
        go_ret
        exact ⟨by rw [HT.out] <;> rfl, HB.out⟩
  · have q9 : (40 : Int) < (L.length : Int) := by omega
    have HT := Kp.mk (fewS_big h0)
    have HB := Kp.mk (Below.refl w.heap.size w)
    go_wp2_with fail
    go_ret
    exact ⟨by rw [HT.out] <;> rfl, HB.out⟩
theorem litF (W : World) {B : Nat} (hB : B ≤ W.heap.size) : (W.alloc (.cells #[] 59)).ownsRow B 59 2 (.slice (some ⟨W.heap.size, 0, none⟩) 0 0) 0 [] := World.ownsRow_lit (base := B) (e := 59) (size := 2) W #[] 0 hB (by unfold maxLen; omega) rfl
set_option maxRecDepth 100000 in
set_option maxHeartbeats 4000000 in
theorem rfall_any (fold : Int) (v : Value) (L : List ByteArray) (w : World) (hv : RdS w v L) (hl : L.length ≤ 1000) (hz : ∀ s ∈ L, s.size ≤ 900) :
    Calls Tryd.prog 30 #[.int .i64 fold, v] w (RetUA fold L w) := by
  have HU := Kp.mk (runfold_any fold v L w hv hl (fun s hs => by have := hz s hs; omega))
  unfold RetU at HU
  have HZ := Kp.mk (ufL_sm (fold := fold) hl hz)
  have hln := ufL_len fold L
  have HW := Kp.mk (uf_ways fold L)
  have HE := Kp.mk (show afE fold L = if ufE fold L = 0 then faE (ufL fold L) else ufE fold L from rfl)
  have HL := Kp.mk (show afL fold L = faL (ufL fold L) from rfl)
  obtain ⟨av, cv, rfl, -, -, -⟩ := hv
  go_enter Tryd.func30, Tryd.ntmps30
  go_wp2_with fail
  refine HU.out.mono ?_
  rintro e w1 ⟨u, rfl, ho, hb⟩
  have HR := Kp.mk (rds_own ho)
  obtain ⟨a1, c1, rfl⟩ := own_lenH ho
  have HB1 := Kp.mk hb
  have HO0 := Kp.mk (litF w1 (Nat.le_refl _))
  have HBL := Kp.mk ((Below.refl w1.heap.size w1).alloc (Nat.le_refl _) (.cells #[] 59))
  clear ho hb
  rcases HW.out with h0 | ⟨h0, h1⟩
  · rw [h0, if_pos rfl] at HE
    rw [h0]
    generalize ufL fold L = W at *
    clear HU HW h0
    go_wp2_with fail
    go_loopw [8, 9] (fun ov i wr => ∃ k : Nat, k ≤ W.length ∧ i = .int .i64 k ∧ (∀ x ∈ W.take k, fldE x = 0) ∧ wr.ownsRow w1.heap.size 59 2 ov (faP W k).length (fvH (faP W k)) ∧ Below w1.heap.size w1 wr) (fun _ i _ => W.length - (intOf i).toNat)
    case atStart => exact ⟨0, by omega, rfl, by simp, HO0.out, HBL.out⟩
    case round =>
      obtain ⟨k, hk, rfl, hp, hown, hb⟩ := hrel
      obtain ⟨av, cv, rfl⟩ := own_lenH hown
      have HOW := Kp.mk hown
      have HB := Kp.mk hb
      have HBW := Kp.mk (HB1.out.trans (hb.mono HB1.out.size))
      have HP := Kp.mk hp
      have hle := faP_len W k
      clear hown hb hp
      by_cases hlt : k < W.length
      · obtain ⟨g, o, rfl, hgl, dd⟩ := rds_cells (HR.out.below HB.out) (by omega)
        have c1 := dd k hlt
        have m1 := HZ.out W[k] (List.getElem_mem hlt)
        have q0 : (0 : Int) ≤ (k : Int) := by omega
        have q1 : (k : Int) < (W.length : Int) := by omega
        have HST := Kp.mk (faP_step hlt)
        have HMO := Kp.mk (fa_more hlt HP.out)
        have HBAD := Kp.mk (fa_bad hlt HP.out)
        clear dd
        unfold fldOf at HST
        generalize W[k] = s at *
        have FP := Kp.mk (fun w => rfparse_any s w m1)
        unfold FldRet at FP
        generalize fldN s = fn at *
        generalize fldV s = fv at *
        generalize hE : fldE s = fe at *
        generalize hQ : faP W k = Q at *
        have hlen : (Q.length + 1) * 32 ≤ 140737488355328 := by omega
        have hmx : Q.length + 1 ≤ maxLen := by unfold maxLen; omega
        go_wp2_with fail
        refine (FP.out _).mono ?_
        rintro e w2 ⟨rfl, hb2⟩
        have HB2 := Kp.mk (HB.out.trans (hb2.mono HB.out.size))
        have HO2 := Kp.mk ((own_bel HOW.out hb2).alloc (.cells #[.string fn, .string fv] 59))
        have HBX := Kp.mk (HB2.out.alloc HB2.out.size (.cells #[.string fn, .string fv] 59))
        have hszX : w1.heap.size ≤ (w2.alloc (.cells #[.string fn, .string fv] 59)).heap.size := HBX.out.size
        clear hb2 c1
        by_cases h0 : fe = 0
        · subst h0
          have HMO2 := Kp.mk (HMO.out rfl)
          go_wp2_with (at_builtin; (refine app_any rfl _ _ _ _ rfl Tryd.underlying22 _ _ _ Tryd.infoFH rfl (by omega) w1.heap.size _ _ _ rfl HO2.out #[.string fn, .string fv] rfl (fun u hu => by simp at hu; rcases hu with rfl | rfl <;> rfl) (w2.heap.size + 1) (by simp) rfl hlen hmx hszX ?_; intro g' cap' w' h1 h2 h3; have G1 := Kp.mk h1; have G2 := Kp.mk (grown_bel HO2.out hszX h2); clear h1 h2 h3))
          go_roundw
          case rel =>
            refine ⟨k + 1, by omega, by go_num, HMO2.out, ?_, HBX.out.trans G2.out⟩
            rw [HST.out, List.length_append, fvH_snoc]
            exact G1.out
          case measure => simp [intOf]; omega
        · obtain ⟨b1, b2⟩ := HBAD.out h0
          have HE2 := Kp.mk (HE.out.trans b1)
          have HL2 := Kp.mk (HL.out.trans b2)
          have HBE := Kp.mk (HB1.out.trans (HBX.out.mono HB1.out.size))
          have q7 : (fe != 0) = true := by rw [bne_iff_ne]; exact h0
          clear b1 b2
          go_wp2_with fail
          go_ret2
          exact ⟨.slice none 0 0, by rw [HE2.out] <;> rfl, by rw [HL2.out]; exact World.ownsRow_nil _ _ _ _, HBE.out⟩
      · obtain ⟨b1, b2⟩ := fa_good (show W.length ≤ k by omega) HP.out
        have HE2 := Kp.mk (HE.out.trans b1)
        have HL2 := Kp.mk (HL.out.trans b2)
        clear b1 b2
        generalize faP W k = Q at *
        go_wp2_with fail
        go_ret2
        exact ⟨.slice av Q.length cv, by rw [HE2.out] <;> rfl, by rw [HL2.out]; exact own_lowF HOW.out HB1.out.size, HBW.out⟩
  · have HE2 := Kp.mk (show afE fold L = 3 by rw [HE.out, if_neg (by rw [h0]; decide), h0])
    have HL2 := Kp.mk (show afL fold L = [] by rw [HL.out, h1]; rfl)
    rw [h1] at HR
    rw [h0, h1]
    clear h0 h1 HU HW
    go_wp2_with fail
    go_loopw [8, 9] (fun ov i wr => ov = .slice (some ⟨w1.heap.size, 0, none⟩) 0 0 ∧ i = .int .i64 0 ∧ wr = w1.alloc (.cells #[] 59)) (fun _ _ _ => 0)
    case atStart => exact ⟨rfl, rfl, rfl⟩
    case round =>
      obtain ⟨rfl, rfl, rfl⟩ := hrel
      have HBE := Kp.mk (HB1.out.trans (HBL.out.mono HB1.out.size))
      go_wp2_with fail
      go_ret2
      exact ⟨.slice (some ⟨w1.heap.size, 0, none⟩) 0 0, by rw [HE2.out] <;> rfl, by rw [HL2.out]; exact own_lowF HO0.out HB1.out.size, HBE.out⟩
/-! ### The law FieldUnfolds -/
theorem sameL_self {α : Type} [DecidableEq α] (l : List α) : sameL l l = true := decide_eq_true rfl
set_option maxRecDepth 100000 in
set_option maxHeartbeats 4000000 in
theorem funf_walk (fold : Int) (v : Value) (L : List ByteArray) (w : World) (hv : RdS w v L) (hz : ∀ x ∈ L, x.size ≤ maxLen) :
    Calls Tryd.prog 6 #[.int .i64 fold, v] w fun e w' => e = .returned (.bool true) ∧ Below w.heap.size w w' := by
  have HV := Kp.mk hv
  have HF1 := Kp.mk (few9_any v L w hv hz)
  clear hz
  obtain ⟨ad, cap, rfl, -, -, -⟩ := hv
  go_enter Tryd.func6, Tryd.ntmps6
  cases hfl : fewS L
  · rw [hfl] at HF1
    clear hfl
    go_wp2_with fail
    refine HF1.out.mono ?_
    rintro e w1 ⟨rfl, hb⟩
    have HB1 := Kp.mk hb
    clear hb
    go_wp2_with fail
    refine (lives9_any _).mono ?_
    rintro e w90 ⟨rfl, hb90⟩
    have HB90 := Kp.mk (HB1.out.trans (hb90.mono HB1.out.size))
    clear hb90
    go_wp2_with fail
    go_ret
    exact ⟨rfl, HB90.out⟩
  · rw [hfl] at HF1
    obtain ⟨hl, hsm⟩ := fewS_out hfl
    have HA := Kp.mk (fun w hv => unfold_any fold (.slice ad L.length cap) L w hv (by omega) (fun s hs => by have := hsm s hs; omega))
    have HB := Kp.mk (fun w hv => runfold_any fold (.slice ad L.length cap) L w hv (by omega) (fun s hs => by have := hsm s hs; omega))
    have HC := Kp.mk (fun w hv => fall_any fold (.slice ad L.length cap) L w hv (by omega) (fun s hs => by have := hsm s hs; omega))
    have HD := Kp.mk (fun w hv => rfall_any fold (.slice ad L.length cap) L w hv (by omega) (fun s hs => by have := hsm s hs; omega))
    have hul := ufL_len fold L
    have hal : (afL fold L).length ≤ 40 := by
      unfold afL faL
      split
      · rw [List.length_map]; omega
      · exact Nat.zero_le _
    unfold RetU at HA HB
    unfold RetUA at HC HD
    generalize ufL fold L = U at *
    generalize ufE fold L = ue at *
    generalize afL fold L = M at *
    generalize afE fold L = ae at *
    clear hfl hsm
    go_wp2_with fail
    refine HF1.out.mono ?_
    rintro e w1 ⟨rfl, hb⟩
    have B1 := Kp.mk hb
    clear hb
    go_wp2_with fail
    refine (HA.out _ (HV.out.below B1.out)).mono ?_
    rintro e w2 ⟨u1, rfl, ho, hb⟩
    have B2 := Kp.mk (B1.out.trans (hb.mono B1.out.size))
    have R1 := Kp.mk (rds_own ho)
    obtain ⟨a1, c1, rfl⟩ := own_lenH ho
    clear ho hb
    go_wp2_with fail
    refine (HB.out _ (HV.out.below B2.out)).mono ?_
    rintro e w3 ⟨u2, rfl, ho, hb⟩
    have B3 := Kp.mk (B2.out.trans (hb.mono B2.out.size))
    have R2 := Kp.mk (rds_own ho)
    replace R1 := Kp.mk (R1.out.below hb)
    obtain ⟨a2, c2, rfl⟩ := own_lenH ho
    clear ho hb
    go_wp2_with fail
    refine (HC.out _ (HV.out.below B3.out)).mono ?_
    rintro e w4 ⟨u3, rfl, ho, hb⟩
    have B4 := Kp.mk (B3.out.trans (hb.mono B3.out.size))
    have R3 := Kp.mk (rdf_own ho)
    replace R1 := Kp.mk (R1.out.below hb)
    replace R2 := Kp.mk (R2.out.below hb)
    obtain ⟨a3, c3, rfl⟩ := own_lenH ho
    clear ho hb
    go_wp2_with fail
    refine (HD.out _ (HV.out.below B4.out)).mono ?_
    rintro e w5 ⟨u4, rfl, ho, hb⟩
    have B5 := Kp.mk (B4.out.trans (hb.mono B4.out.size))
    have R4 := Kp.mk (rdf_own ho)
    replace R1 := Kp.mk (R1.out.below hb)
    replace R2 := Kp.mk (R2.out.below hb)
    replace R3 := Kp.mk (R3.out.below hb)
    obtain ⟨a4, c4, rfl⟩ := own_lenH ho
    clear ho hb
    go_wp2_with fail
    refine (rssame_any _ _ U U _ R1.out R2.out (by omega) (by omega)).mono ?_
    rintro e w6 ⟨rfl, hb⟩
    rw [sameL_self]
    have B6 := Kp.mk (B5.out.trans (hb.mono B5.out.size))
    replace R3 := Kp.mk (R3.out.below hb)
    replace R4 := Kp.mk (R4.out.below hb)
    clear hb
    go_wp2_with fail
    refine (rfsame_any _ _ M M _ R3.out R4.out (by omega) (by omega)).mono ?_
    rintro e w7 ⟨rfl, hb⟩
    rw [sameL_self]
    have B7 := Kp.mk (B6.out.trans (hb.mono B6.out.size))
    clear hb
    go_wp2_with fail
    refine (lives9_any _).mono ?_
    rintro e w90 ⟨rfl, hb90⟩
    have HB90 := Kp.mk (B7.out.trans (hb90.mono B7.out.size))
    clear hb90
    go_wp2_with fail
    go_ret
    exact ⟨rfl, HB90.out⟩
theorem funf_arg (v0 v1 : Value) (w : World) (h0 : Arg Tryd.prog w 3 v0) (h1 : Arg Tryd.prog w 33 v1) :
    Calls Tryd.prog 6 #[v0, v1] w fun e w' => e = .returned (.bool true) ∧ Below w.heap.size w w' := by
  obtain ⟨k, rfl, hk⟩ := h0.int Tryd.underlying3
  obtain ⟨L, hv, hz⟩ := h1.strs Tryd.underlying33 Tryd.underlying9 Tryd.fcellsFs
  exact funf_walk k v1 L w hv hz
end Go.Proofs.YtkfpioadimkogaaDoor
