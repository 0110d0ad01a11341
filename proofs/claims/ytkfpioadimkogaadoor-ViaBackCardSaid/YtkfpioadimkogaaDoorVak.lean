/- By whom a message came (layer 20): the law ViaBack. -/
import Derived.Test.YtkfpioadimkogaaDoorVaj
import Derived.Deep.DeepCutAuto
namespace Go.Proofs.YtkfpioadimkogaaDoor
open Go.RowKit
set_option linter.unusedVariables false
set_option linter.unusedSimpArgs false

theorem vaTx_size (V B C : ByteArray) : (vaTx V B C).size ≤ V.size + B.size + C.size + 2 := by
  have h1 : (⟨#[32]⟩ : ByteArray).size = 1 := rfl
  unfold vaTx
  split
  · rw [ByteArray.size_append, ByteArray.size_append]; omega
  · rw [ByteArray.size_append, ByteArray.size_append, ByteArray.size_append, ByteArray.size_append]; omega
theorem vaR_sizes (s : ByteArray) : (vaR s).1.size ≤ s.size ∧ (vaR s).2.1.size ≤ s.size ∧ (vaR s).2.2.size ≤ s.size := by
  unfold vaR
  split
  · have h1 := byB_size (vaL s)
    have h2 := preN_le vaNB (vaL s)
    have h3 : (vaL s).size ≤ s.size := by rw [vaL_eq, fromB_size]; omega
    refine ⟨by show (vaV s).size ≤ _; unfold vaV; rw [upB_size]; omega, by show (byB (vaL s)).size ≤ _; omega, ?_⟩
    show (cmB (vaL s)).size ≤ _
    unfold cmB tlB
    rw [fromB_size, fromB_size]
    omega
  · exact ⟨Nat.zero_le _, Nat.zero_le _, Nat.zero_le _⟩
theorem ap_few {l : List Fld} {m : Int} {nm : ByteArray} (hl : l.length ≤ 50) (hz : ∀ p ∈ l, FldSm p) (hn : nm.size ≤ 1000) : (∀ p ∈ apL l m nm, FldSm p) ∧ (apL l m nm).length ≤ 100000 := by
  have hz2 : (apV m nm).size ≤ 100000 := by
    obtain ⟨d, _, e⟩ := apV_list m nm
    rw [ba_size, e]
    simp only [List.length_cons, ← ba_size]
    omega
  unfold apL
  refine ⟨fun p hp => ?_, by rw [List.length_append]; simp; omega⟩
  rcases List.mem_append.1 hp with hp | hp
  · exact hz p hp
  · simp at hp; subst hp; exact ⟨show nmVia.size ≤ 100000 by decide, hz2⟩
theorem ap_size {l : List Fld} {m : Int} {nm : ByteArray} (hj : (viaS l).size ≤ 60000) (hn : nm.size ≤ 1000) : (viaS (apL l m nm)).size ≤ 900000 := by
  have hz2 : (apV m nm).size ≤ 1004 := by
    obtain ⟨d, _, e⟩ := apV_list m nm
    rw [ba_size, e]
    simp only [List.length_cons, ← ba_size]
    omega
  unfold viaS at *
  rw [hAll_via]
  by_cases hA : hAll l nmVia = []
  · rw [hA, List.nil_append, ← hJoin_zero, ByteArray.size_append]
    show 0 + _ ≤ _
    omega
  · rw [hJoin_snoc _ _ hA, ByteArray.size_append, ByteArray.size_append]
    have : (⟨#[44, 32]⟩ : ByteArray).size = 2 := rfl
    omega
/-! ### The law ViaBack -/
set_option maxRecDepth 100000 in
set_option maxHeartbeats 8000000 in
theorem vback_walk (s0 : ByteArray) (v : Value) (l : List Fld) (nm : ByteArray) (w : World) (hs : s0.size ≤ maxLen) (hv : RdF w v l) (hz : ∀ p ∈ l, FldOk p) (hn : nm.size ≤ maxLen) :
    Calls Tryd.prog 3 #[.string s0, v, .string nm] w fun e w' => e = .returned (.bool true) ∧ Below w.heap.size w w' := by
  unfold maxLen at hs hn
  have HA := Kp.mk (extract_le s0 500)
  have HV := Kp.mk hv
  have HF1 := Kp.mk (few10_any v l w hv hz)
  clear hz
  obtain ⟨ad, cap, rfl, -, -, -⟩ := hv
  go_enter Tryd.func3, Tryd.ntmps3
  go_upto_region 1 with fail
  go_cut [0] (fun u0 wx => ∃ s : ByteArray, u0 = .string s ∧ s.size ≤ 500 ∧ wx = w)
  case first =>
    by_cases hq : s0.size ≤ 500
    · have q1 : ¬ (500 : Int) < (s0.size : Int) := by omega
      go_wp2_with fail
      go_meet
      refine ⟨_, rfl, ?_, rfl⟩
      first | omega | (simp; omega) | (rw [ByteArray.size_extract]; omega)
    · have q1 : (500 : Int) < (s0.size : Int) := by omega
      go_wp2_with fail
      go_meet
      refine ⟨_, rfl, ?_, rfl⟩
      first | exact HA.out | omega | (simp; omega) | (rw [ByteArray.size_extract]; omega)
  case rest =>
    obtain ⟨s, rfl, hsz, rfl⟩ := hcut
    clear HA hs
    cases hfl : hFew l
    · rw [hfl] at HF1
      clear hfl
      go_wp2_with fail
      refine HF1.out.mono ?_
      rintro e w1 ⟨rfl, hb⟩
      have HB1 := Kp.mk hb
      clear hb
      go_wp2_with fail
      refine (lives20_any _).mono ?_
      rintro e w90 ⟨rfl, hb90⟩
      have HB90 := Kp.mk (HB1.out.trans (hb90.mono HB1.out.size))
      clear hb90
      go_wp2_with fail
      go_ret
      exact ⟨rfl, HB90.out⟩
    · rw [hfl] at HF1
      have FW := fewF_of hfl
      have hl50 := FW.len
      have hsm := FW.sm
      have hl : l.length ≤ 100000 := by omega
      have hj6 : (viaS l).size ≤ 60000 := by have := FW.comb nmVia; unfold viaS; omega
      have hj : (viaS l).size ≤ 900000 := by omega
      clear hfl FW
      by_cases g1 : nm.size ≤ 100
      · have q1 : ¬ (100 : Int) < (nm.size : Int) := by omega
        obtain ⟨f0, f1⟩ := ap_few (l := l) (m := 0) (nm := nm) hl50 hsm (by omega)
        obtain ⟨f2, f3⟩ := ap_few (l := l) (m := 1) (nm := nm) hl50 hsm (by omega)
        have f4 := ap_size (l := l) (m := 0) (nm := nm) hj6 (by omega)
        have f5 := ap_size (l := l) (m := 1) (nm := nm) hj6 (by omega)
        have HCO := Kp.mk (fun w hv => show Calls Tryd.prog 12 #[.slice ad l.length cap, .string nmVia] w fun e w' => e = .returned (.tuple #[.string (viaS l), .bool (hIs l nmVia)]) ∧ Below w.heap.size w w' from rhcomb_any (.slice ad l.length cap) l nmVia w hv hsm hl (by decide))
        have HSP := Kp.mk (fun w => rsplit_any (viaS l) w (by omega))
        unfold RetSp at HSP
        have HTO := Kp.mk (fun w => ref_token_any nm w (by unfold maxLen; omega))
        have HLW := Kp.mk (fun w => ref_lower_any nm w (by omega))
        have HA0 := Kp.mk (fun w hv => va_append_any (.slice ad l.length cap) l 0 nm w hv hl (by omega))
        have HA1 := Kp.mk (fun w hv => va_append_any (.slice ad l.length cap) l 1 nm w hv hl (by omega))
        unfold RetF at HA0 HA1
        have HLP := Kp.mk (fun v w hv => va_loops_any v (apL l 0 nm) (lowB nm) w hv f0 f1 f4 (by rw [lowB_size]; omega))
        have HAL1 := Kp.mk (fun v w hv => va_all_any v (apL l 1 nm) w hv f2 f3 f5)
        have HAL := Kp.mk (fun w hv => va_all_any (.slice ad l.length cap) l w hv hsm hl hj)
        unfold RetHs at HAL1 HAL
        have hvl := viaL_len l hj
        have hvl1 := viaL_len (apL l 1 nm) f5
        have P1 := Kp.mk (fun w => va_parse_any s w (by omega))
        obtain ⟨z1, z2, z3⟩ := vaR_sizes s
        clear f0 f1 f2 f3 f4 f5 hj hj6 hsm
        go_wp2_with fail
        refine HF1.out.mono ?_
        rintro e w1 ⟨rfl, hb⟩
        have HB1 := Kp.mk hb
        clear hb
        by_cases hE : vaE s = 0
        · obtain ⟨k1, k2⟩ := (va_hop hE).back
          have hz4 := vaTx_size (vaR s).1 (vaR s).2.1 (vaR s).2.2
          have PT := Kp.mk (fun w => va_text_any (vaR s).1 (vaR s).2.1 (vaR s).2.2 w (by omega) (by omega) (by omega))
          have P2 := Kp.mk (fun w => va_parse_any (vaTx (vaR s).1 (vaR s).2.1 (vaR s).2.2) w (by omega))
          unfold RetHp at P1 P2
          rw [k1, k2] at P2
          rw [hE] at P1
          clear k1 k2 hE
          generalize vaR s = R at *
          obtain ⟨V, B, C⟩ := R
          unfold vaH at P1 P2
          dsimp only at P1 P2 PT z1 z2 z3 hz4
          generalize vaTx V B C = T at *
          go_wp2_with fail
          refine (P1.out _).mono ?_
          rintro e w2 ⟨rfl, hb⟩
          have HB2 := Kp.mk (HB1.out.trans (hb.mono HB1.out.size))
          have K2 := Kp.mk (Bl.new w2 26 #[.string V, .string B, .string C])
          have HX2 := Kp.mk (HB2.out.alloc HB2.out.size (.cells #[.string V, .string B, .string C] 26))
          clear hb
          go_wp2_with fail
          refine (PT.out _).mono ?_
          rintro e w3 ⟨rfl, hb⟩
          have HB3 := Kp.mk (HX2.out.trans (hb.mono HX2.out.size))
          have K3 := Kp.mk (K2.out.below hb)
          clear hb
          go_wp2_with fail
          refine (P2.out _).mono ?_
          rintro e w4 ⟨rfl, hb⟩
          have HB4 := Kp.mk (HB3.out.trans (hb.mono HB3.out.size))
          have K4 := Kp.mk (K3.out.below hb)
          obtain ⟨c0, c1, c2, -, -, -, hl4⟩ := vares K4.out
          have HX4 := Kp.mk (HB4.out.alloc HB4.out.size (.cells #[.string V, .string B, .string C] 26))
          clear hb
          go_wp2_with fail
          clear c0 c1 c2 hl4
          refine (HCO.out _ (HV.out.below HX4.out)).mono ?_
          rintro e w20 ⟨rfl, hb⟩
          have HB20 := Kp.mk (HX4.out.trans (hb.mono HX4.out.size))
          clear hb
          go_wp2_with fail
          refine (HSP.out _).mono ?_
          rintro e w21 ⟨u21, rfl, ho, hb⟩
          have HB21 := Kp.mk (HB20.out.trans (hb.mono HB20.out.size))
          obtain ⟨a21, k21, rfl⟩ := own_lenH ho
          clear ho hb
          cases hsb : splB (viaS l)
          · clear hsb
            go_wp2_with fail
            refine (lives20_any _).mono ?_
            rintro e w90 ⟨rfl, hb90⟩
            have HB90 := Kp.mk (HB21.out.trans (hb90.mono HB21.out.size))
            clear hb90
            go_wp2_with fail
            go_ret
            exact ⟨rfl, HB90.out⟩
          · cases htk : tokenB nm
            · rw [htk] at HTO
              clear hsb htk
              go_wp2_with fail
              refine (HTO.out _).mono ?_
              rintro e w22 ⟨rfl, rfl⟩
              go_wp2_with fail
              refine (lives20_any _).mono ?_
              rintro e w90 ⟨rfl, hb90⟩
              have HB90 := Kp.mk (HB21.out.trans (hb90.mono HB21.out.size))
              clear hb90
              go_wp2_with fail
              go_ret
              exact ⟨rfl, HB90.out⟩
            · rw [htk] at HTO
              have S1 := via_seen l 0 htk hsb
              have S2 := via_more l 1 htk hsb
              have S3 := Kp.mk (show (viaL (apL l 1 nm)).length = (viaL l).length + 1 by rw [S2, List.length_append]; rfl)
              rw [S1] at HLP
              clear S1 S2 hsb htk
              generalize viaL (apL l 1 nm) = M1 at *
              generalize viaL l = M at *
              generalize apL l 0 nm = F0 at *
              generalize apL l 1 nm = F1 at *
              have hm1 := S3.out
              have hm2 : ((M1.length : Int) == (M.length : Int) + 1) = true := by rw [hm1]; simp
              clear hm1
              go_wp2_with fail
              refine (HTO.out _).mono ?_
              rintro e w22 ⟨rfl, rfl⟩
              go_wp2_with fail
              refine (HA0.out _ (HV.out.below HB21.out)).mono ?_
              rintro e w23 ⟨u23, rfl, ho, hb⟩
              have HB23 := Kp.mk (HB21.out.trans (hb.mono HB21.out.size))
              have R23 := Kp.mk (rdf_own ho)
              obtain ⟨a23, k23, rfl⟩ := own_lenH ho
              clear ho hb
              go_wp2_with fail
              refine (HLW.out _).mono ?_
              rintro e w24 ⟨rfl, hb⟩
              have HB24 := Kp.mk (HB23.out.trans (hb.mono HB23.out.size))
              have R24 := Kp.mk (R23.out.below hb)
              clear hb
              go_wp2_with fail
              refine (HLP.out _ _ R24.out).mono ?_
              rintro e w25 ⟨rfl, hb⟩
              have HB25 := Kp.mk (HB24.out.trans (hb.mono HB24.out.size))
              clear hb
              go_wp2_with fail
              refine (HA1.out _ (HV.out.below HB25.out)).mono ?_
              rintro e w26 ⟨u26, rfl, ho, hb⟩
              have HB26 := Kp.mk (HB25.out.trans (hb.mono HB25.out.size))
              have R26 := Kp.mk (rdf_own ho)
              obtain ⟨a26, k26, rfl⟩ := own_lenH ho
              clear ho hb
              go_wp2_with fail
              refine (HAL1.out _ _ R26.out).mono ?_
              rintro e w27 ⟨u27, rfl, ho, hb⟩
              have HB27 := Kp.mk (HB26.out.trans (hb.mono HB26.out.size))
              obtain ⟨a27, k27, rfl⟩ := own_lenH ho
              clear ho hb
              go_wp2_with fail
              refine (HAL.out _ (HV.out.below HB27.out)).mono ?_
              rintro e w28 ⟨u28, rfl, ho, hb⟩
              have HB28 := Kp.mk (HB27.out.trans (hb.mono HB27.out.size))
              obtain ⟨a28, k28, rfl⟩ := own_lenH ho
              clear ho hb
              go_wp2_with fail
              refine (lives20_any _).mono ?_
              rintro e w90 ⟨rfl, hb90⟩
              have HB90 := Kp.mk (HB28.out.trans (hb90.mono HB28.out.size))
              clear hb90
              go_wp2_with fail
              go_ret
              exact ⟨rfl, HB90.out⟩
        · have hE2 : (vaE s == 0) = false := beq_eq_false_iff_ne.2 hE
          unfold RetHp at P1
          generalize vaR s = R at *
          obtain ⟨V, B, C⟩ := R
          unfold vaH at P1
          dsimp only at P1
          generalize vaE s = E at *
          clear hE z1 z2 z3
          go_wp2_with fail
          refine (P1.out _).mono ?_
          rintro e w2 ⟨rfl, hb⟩
          have HB2 := Kp.mk (HB1.out.trans (hb.mono HB1.out.size))
          have HX2 := Kp.mk (HB2.out.alloc HB2.out.size (.cells #[.string V, .string B, .string C] 26))
          clear hb
          go_wp2_with fail
          refine (HCO.out _ (HV.out.below HX2.out)).mono ?_
          rintro e w20 ⟨rfl, hb⟩
          have HB20 := Kp.mk (HX2.out.trans (hb.mono HX2.out.size))
          clear hb
          go_wp2_with fail
          refine (HSP.out _).mono ?_
          rintro e w21 ⟨u21, rfl, ho, hb⟩
          have HB21 := Kp.mk (HB20.out.trans (hb.mono HB20.out.size))
          obtain ⟨a21, k21, rfl⟩ := own_lenH ho
          clear ho hb
          cases hsb : splB (viaS l)
          · clear hsb
            go_wp2_with fail
            refine (lives20_any _).mono ?_
            rintro e w90 ⟨rfl, hb90⟩
            have HB90 := Kp.mk (HB21.out.trans (hb90.mono HB21.out.size))
            clear hb90
            go_wp2_with fail
            go_ret
            exact ⟨rfl, HB90.out⟩
          · cases htk : tokenB nm
            · rw [htk] at HTO
              clear hsb htk
              go_wp2_with fail
              refine (HTO.out _).mono ?_
              rintro e w22 ⟨rfl, rfl⟩
              go_wp2_with fail
              refine (lives20_any _).mono ?_
              rintro e w90 ⟨rfl, hb90⟩
              have HB90 := Kp.mk (HB21.out.trans (hb90.mono HB21.out.size))
              clear hb90
              go_wp2_with fail
              go_ret
              exact ⟨rfl, HB90.out⟩
            · rw [htk] at HTO
              have S1 := via_seen l 0 htk hsb
              have S2 := via_more l 1 htk hsb
              have S3 := Kp.mk (show (viaL (apL l 1 nm)).length = (viaL l).length + 1 by rw [S2, List.length_append]; rfl)
              rw [S1] at HLP
              clear S1 S2 hsb htk
              generalize viaL (apL l 1 nm) = M1 at *
              generalize viaL l = M at *
              generalize apL l 0 nm = F0 at *
              generalize apL l 1 nm = F1 at *
              have hm1 := S3.out
              have hm2 : ((M1.length : Int) == (M.length : Int) + 1) = true := by rw [hm1]; simp
              clear hm1
              go_wp2_with fail
              refine (HTO.out _).mono ?_
              rintro e w22 ⟨rfl, rfl⟩
              go_wp2_with fail
              refine (HA0.out _ (HV.out.below HB21.out)).mono ?_
              rintro e w23 ⟨u23, rfl, ho, hb⟩
              have HB23 := Kp.mk (HB21.out.trans (hb.mono HB21.out.size))
              have R23 := Kp.mk (rdf_own ho)
              obtain ⟨a23, k23, rfl⟩ := own_lenH ho
              clear ho hb
              go_wp2_with fail
              refine (HLW.out _).mono ?_
              rintro e w24 ⟨rfl, hb⟩
              have HB24 := Kp.mk (HB23.out.trans (hb.mono HB23.out.size))
              have R24 := Kp.mk (R23.out.below hb)
              clear hb
              go_wp2_with fail
              refine (HLP.out _ _ R24.out).mono ?_
              rintro e w25 ⟨rfl, hb⟩
              have HB25 := Kp.mk (HB24.out.trans (hb.mono HB24.out.size))
              clear hb
              go_wp2_with fail
              refine (HA1.out _ (HV.out.below HB25.out)).mono ?_
              rintro e w26 ⟨u26, rfl, ho, hb⟩
              have HB26 := Kp.mk (HB25.out.trans (hb.mono HB25.out.size))
              have R26 := Kp.mk (rdf_own ho)
              obtain ⟨a26, k26, rfl⟩ := own_lenH ho
              clear ho hb
              go_wp2_with fail
              refine (HAL1.out _ _ R26.out).mono ?_
              rintro e w27 ⟨u27, rfl, ho, hb⟩
              have HB27 := Kp.mk (HB26.out.trans (hb.mono HB26.out.size))
              obtain ⟨a27, k27, rfl⟩ := own_lenH ho
              clear ho hb
              go_wp2_with fail
              refine (HAL.out _ (HV.out.below HB27.out)).mono ?_
              rintro e w28 ⟨u28, rfl, ho, hb⟩
              have HB28 := Kp.mk (HB27.out.trans (hb.mono HB27.out.size))
              obtain ⟨a28, k28, rfl⟩ := own_lenH ho
              clear ho hb
              go_wp2_with fail
              refine (lives20_any _).mono ?_
              rintro e w90 ⟨rfl, hb90⟩
              have HB90 := Kp.mk (HB28.out.trans (hb90.mono HB28.out.size))
              clear hb90
              go_wp2_with fail
              go_ret
              exact ⟨rfl, HB90.out⟩
      · have q1 : (100 : Int) < (nm.size : Int) := by omega
        go_wp2_with fail
        refine HF1.out.mono ?_
        rintro e w1 ⟨rfl, hb⟩
        have HB1 := Kp.mk hb
        clear hb
        go_wp2_with fail
        refine (lives20_any _).mono ?_
        rintro e w90 ⟨rfl, hb90⟩
        have HB90 := Kp.mk (HB1.out.trans (hb90.mono HB1.out.size))
        clear hb90
        go_wp2_with fail
        go_ret
        exact ⟨rfl, HB90.out⟩
theorem vback_arg (v0 v1 v2 : Value) (w : World) (h0 : Arg Tryd.prog w 9 v0) (h1 : Arg Tryd.prog w 22 v1) (h2 : Arg Tryd.prog w 9 v2) :
    Calls Tryd.prog 3 #[v0, v1, v2] w fun e w' => e = .returned (.bool true) ∧ Below w.heap.size w w' := by
  obtain ⟨s, rfl, hs⟩ := h0.str Tryd.underlying9
  obtain ⟨l, hv, hz⟩ := hlist_va v1 w h1
  obtain ⟨x, rfl, hx⟩ := h2.str Tryd.underlying9
  exact vback_walk s v1 l x w hs hv hz hx
end Go.Proofs.YtkfpioadimkogaaDoor
