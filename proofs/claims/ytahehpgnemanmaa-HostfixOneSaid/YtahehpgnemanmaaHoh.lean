/- Hosts (layer 11): the laws HostParses, HostText, HostBack. -/
import Derived.Test.YtahehpgnemanmaaHog
import Derived.Deep.DeepCutAuto
namespace Go.Proofs.Ytahehpgnemanmaa
open Go.RowKit
set_option linter.unusedVariables false
set_option linter.unusedSimpArgs false

theorem hs_same (b : Bool) : (b == b) = true := by cases b <;> rfl
theorem hs_ext (s : ByteArray) : (s.extract 0 500).size ≤ 500 := by rw [ByteArray.size_extract]; omega
theorem hsTxt_size {nm : ByteArray} {p : Int} (hn : nm.size ≤ 900000) : (hsTxt nm p).size ≤ 1000000 := by
  have h1 := lowB_size nm
  have h2 := textL_len p
  have h3 := ofL_size (textL p)
  unfold hsTxt
  split
  · omega
  · rw [ByteArray.size_append, hsColon_size]; omega
set_option maxRecDepth 100000 in
set_option maxHeartbeats 4000000 in
theorem hparses_walk (s0 : ByteArray) (w : World) (hs : s0.size ≤ maxLen) :
    Calls Try.prog 3 #[.string s0] w fun e w' => e = .returned (.bool true) ∧ Below w.heap.size w w' := by
  unfold maxLen at hs
  have HA := Kp.mk (hs_ext s0)
  go_enter Try.func3, Try.ntmps3
  go_upto_region 1 with fail
  go_cut [0] (fun u0 wx => ∃ s : ByteArray, u0 = .string s ∧ s.size ≤ 500 ∧ wx = w)
  case first =>
    by_cases hq : s0.size ≤ 500
    · have q1 : ¬ (500 : Int) < (s0.size : Int) := by omega
      go_wp2_with fail
      go_meet
      refine ⟨_, rfl, ?_, rfl⟩
      first | omega | (simp; omega) | (rw [ByteArray.size_extract]; omega)
    · have q1 : (500 : Int) < (s0.size : Int) := by omega
      go_wp2_with fail
      go_meet
      refine ⟨_, rfl, ?_, rfl⟩
      first | exact HA.out | omega | (simp; omega) | (rw [ByteArray.size_extract]; omega)
  case rest =>
    obtain ⟨s, rfl, hsz, rfl⟩ := hcut
    clear HA hs
    have HD := Kp.mk (show hsRet s = .tuple #[.string (hsN s), .int .i64 (hsP s), .int .i64 (hsE s)] from rfl)
    have HK := Kp.mk (show hsKR s = .tuple #[.string (hsK s), .bool (hsE s == 0)] from rfl)
    have h8 := hs_same (hsE s == 0)
    generalize (hsE s == 0) = eb at *
    generalize hsN s = N at *
    generalize hsP s = p at *
    generalize hsE s = E at *
    generalize hsK s = K at *
    go_wp2_with fail
    refine (hs_parse_any s _ (by omega)).mono ?_
    rintro e w1 ⟨rfl, hb⟩
    rw [HD.out]
    have HB1 := Kp.mk hb
    clear hb
    go_wp2_with fail
    refine (rhs_parse_any s _ (by omega)).mono ?_
    rintro e w2 ⟨rfl, hb⟩
    rw [HD.out]
    have HB2 := Kp.mk (HB1.out.trans (hb.mono HB1.out.size))
    clear hb
    go_wp2_with fail
    refine (hs_key_any s _ (by omega)).mono ?_
    rintro e w3 ⟨rfl, hb⟩
    rw [HK.out]
    have HB3 := Kp.mk (HB2.out.trans (hb.mono HB2.out.size))
    clear hb
    go_wp2_with fail
    refine (rhs_key_any s _ (by omega)).mono ?_
    rintro e w4 ⟨rfl, hb⟩
    rw [HK.out]
    have HB4 := Kp.mk (HB3.out.trans (hb.mono HB3.out.size))
    clear hb
    go_wp2_with fail
    refine (lives11_any _).mono ?_
    rintro e w5 ⟨rfl, hb⟩
    have HB5 := Kp.mk (HB4.out.trans (hb.mono HB4.out.size))
    clear hb
    go_wp2_with fail
    go_ret
    exact ⟨rfl, HB5.out⟩
set_option maxRecDepth 100000 in
set_option maxHeartbeats 4000000 in
theorem htext_walk (s0 : ByteArray) (p : Int) (w : World) (hs : s0.size ≤ maxLen) (h0 : -9223372036854775808 ≤ p) (h1 : p ≤ 9223372036854775807) :
    Calls Try.prog 4 #[.string s0, .int .i64 p] w fun e w' => e = .returned (.bool true) ∧ Below w.heap.size w w' := by
  unfold maxLen at hs
  have HA := Kp.mk (hs_ext s0)
  go_enter Try.func4, Try.ntmps4
  go_upto_region 1 with fail
  go_cut [0] (fun u0 wx => ∃ s : ByteArray, u0 = .string s ∧ s.size ≤ 500 ∧ wx = w)
  case first =>
    by_cases hq : s0.size ≤ 500
    · have q1 : ¬ (500 : Int) < (s0.size : Int) := by omega
      go_wp2_with fail
      go_meet
      refine ⟨_, rfl, ?_, rfl⟩
      first | omega | (simp; omega) | (rw [ByteArray.size_extract]; omega)
    · have q1 : (500 : Int) < (s0.size : Int) := by omega
      go_wp2_with fail
      go_meet
      refine ⟨_, rfl, ?_, rfl⟩
      first | exact HA.out | omega | (simp; omega) | (rw [ByteArray.size_extract]; omega)
  case rest =>
    obtain ⟨s, rfl, hsz, rfl⟩ := hcut
    clear HA hs
    have HT := Kp.mk (fun w => hs_text_any s p w (by omega) h0 h1)
    have HT2 := Kp.mk (fun w => rhs_text_any s p w (by omega) h0 h1)
    generalize hsTxt s p = T at *
    go_wp2_with fail
    refine (HT.out _).mono ?_
    rintro e w1 ⟨rfl, hb⟩
    have HB1 := Kp.mk hb
    clear hb
    go_wp2_with fail
    refine (HT2.out _).mono ?_
    rintro e w2 ⟨rfl, hb⟩
    have HB2 := Kp.mk (HB1.out.trans (hb.mono HB1.out.size))
    clear hb
    go_wp2_with fail
    refine (lives11_any _).mono ?_
    rintro e w5 ⟨rfl, hb⟩
    have HB5 := Kp.mk (HB2.out.trans (hb.mono HB2.out.size))
    clear hb
    go_wp2_with fail
    go_ret
    exact ⟨rfl, HB5.out⟩
set_option maxRecDepth 100000 in
set_option maxHeartbeats 4000000 in
theorem hback_walk (s0 : ByteArray) (w : World) (hs : s0.size ≤ maxLen) :
    Calls Try.prog 5 #[.string s0] w fun e w' => e = .returned (.bool true) ∧ Below w.heap.size w w' := by
  unfold maxLen at hs
  have HA := Kp.mk (hs_ext s0)
  go_enter Try.func5, Try.ntmps5
  go_upto_region 1 with fail
  go_cut [0] (fun u0 wx => ∃ s : ByteArray, u0 = .string s ∧ s.size ≤ 500 ∧ wx = w)
  case first =>
    by_cases hq : s0.size ≤ 500
    · have q1 : ¬ (500 : Int) < (s0.size : Int) := by omega
      go_wp2_with fail
      go_meet
      refine ⟨_, rfl, ?_, rfl⟩
      first | omega | (simp; omega) | (rw [ByteArray.size_extract]; omega)
    · have q1 : (500 : Int) < (s0.size : Int) := by omega
      go_wp2_with fail
      go_meet
      refine ⟨_, rfl, ?_, rfl⟩
      first | exact HA.out | omega | (simp; omega) | (rw [ByteArray.size_extract]; omega)
  case rest =>
    obtain ⟨s, rfl, hsz, rfl⟩ := hcut
    clear HA hs
    by_cases hE : hsE s = 0
    · have hz := hsN_size s
      have hp := hsP_range s
      have hnm : hsNamed (hsN s) = true := by unfold hsN; rw [if_pos hE]; exact (hsE_named hE).2.1
      obtain ⟨b1, b2, b3⟩ := hs_back hnm hp.1 hp.2
      have eK : hsK s = hsTxt (hsN s) (hsP s) := by unfold hsK; rw [if_pos hE]
      obtain ⟨k1, k2⟩ := hs_key hE
      have hzt := hsTxt_size (nm := hsN s) (p := hsP s) (by omega)
      have P1 := Kp.mk (fun w => hs_key_any s w (by omega))
      rw [show hsKR s = .tuple #[.string (hsTxt (hsN s) (hsP s)), .bool true] by unfold hsKR; rw [hE, eK]; rfl] at P1
      have P2 := Kp.mk (fun w => hs_key_any (hsK s) w (by rw [eK]; omega))
      rw [show hsKR (hsK s) = .tuple #[.string (hsTxt (hsN s) (hsP s)), .bool true] by unfold hsKR; rw [k1, k2, eK]; rfl, eK] at P2
      have P3 := Kp.mk (fun w => hs_parse_any s w (by omega))
      rw [show hsRet s = .tuple #[.string (hsN s), .int .i64 (hsP s), .int .i64 0] by unfold hsRet; rw [hE]] at P3
      have P4 := Kp.mk (fun w => hs_text_any (hsN s) (hsP s) w (by omega) (by omega) (by omega))
      have P5 := Kp.mk (fun w => hs_parse_any (hsTxt (hsN s) (hsP s)) w hzt)
      rw [show hsRet (hsTxt (hsN s) (hsP s)) = .tuple #[.string (lowB (hsN s)), .int .i64 (hsP s), .int .i64 0] by unfold hsRet; rw [b1, b2, b3]] at P5
      have P6 := Kp.mk (fun w => ref_lower_any (hsN s) w (by omega))
      clear hE hz hnm b1 b2 b3 eK k1 k2 hzt
      generalize hsTxt (hsN s) (hsP s) = T at *
      generalize lowB (hsN s) = L at *
      generalize hsN s = N at *
      generalize hsP s = p at *
      go_wp2_with fail
      refine (P1.out _).mono ?_
      rintro e w1 ⟨rfl, hb⟩
      have HB1 := Kp.mk hb
      clear hb
      go_wp2_with fail
      refine (P2.out _).mono ?_
      rintro e w2 ⟨rfl, hb⟩
      have HB2 := Kp.mk (HB1.out.trans (hb.mono HB1.out.size))
      clear hb
      go_wp2_with fail
      refine (P3.out _).mono ?_
      rintro e w3 ⟨rfl, hb⟩
      have HB3 := Kp.mk (HB2.out.trans (hb.mono HB2.out.size))
      clear hb
      go_wp2_with fail
      refine (P4.out _).mono ?_
      rintro e w4 ⟨rfl, hb⟩
      have HB4 := Kp.mk (HB3.out.trans (hb.mono HB3.out.size))
      clear hb
      go_wp2_with fail
      refine (P5.out _).mono ?_
      rintro e w5 ⟨rfl, hb⟩
      have HB5 := Kp.mk (HB4.out.trans (hb.mono HB4.out.size))
      clear hb
      go_wp2_with fail
      refine (P6.out _).mono ?_
      rintro e w6 ⟨rfl, hb⟩
      have HB6 := Kp.mk (HB5.out.trans (hb.mono HB5.out.size))
      clear hb
      go_wp2_with fail
      refine (lives11_any _).mono ?_
      rintro e w7 ⟨rfl, hb⟩
      have HB7 := Kp.mk (HB6.out.trans (hb.mono HB6.out.size))
      clear hb
      go_wp2_with fail
      go_ret
      exact ⟨rfl, HB7.out⟩
    · have P1 := Kp.mk (fun w => hs_key_any s w (by omega))
      rw [show hsKR s = .tuple #[.string ⟨#[]⟩, .bool false] by unfold hsKR hsK; rw [if_neg hE, show (hsE s == 0) = false from beq_eq_false_iff_ne.2 hE]] at P1
      clear hE
      go_wp2_with fail
      refine (P1.out _).mono ?_
      rintro e w1 ⟨rfl, hb⟩
      have HB1 := Kp.mk hb
      clear hb
      go_wp2_with fail
      refine (lives11_any _).mono ?_
      rintro e w7 ⟨rfl, hb⟩
      have HB7 := Kp.mk (HB1.out.trans (hb.mono HB1.out.size))
      clear hb
      go_wp2_with fail
      go_ret
      exact ⟨rfl, HB7.out⟩
theorem hparses_arg (v0 : Value) (w : World) (h0 : Arg Try.prog w 9 v0) :
    Calls Try.prog 3 #[v0] w fun e w' => e = .returned (.bool true) ∧ Below w.heap.size w w' := by
  obtain ⟨x, rfl, hx⟩ := h0.str Try.underlying9
  exact hparses_walk x w hx
theorem htext_arg (v0 v1 : Value) (w : World) (h0 : Arg Try.prog w 9 v0) (h1 : Arg Try.prog w 3 v1) :
    Calls Try.prog 4 #[v0, v1] w fun e w' => e = .returned (.bool true) ∧ Below w.heap.size w w' := by
  obtain ⟨x, rfl, hx⟩ := h0.str Try.underlying9
  obtain ⟨n, rfl, hn⟩ := h1.int Try.underlying3
  have hk := bounds_i64 hn
  exact htext_walk x n w hx (by omega) (by omega)
theorem hback_arg (v0 : Value) (w : World) (h0 : Arg Try.prog w 9 v0) :
    Calls Try.prog 5 #[v0] w fun e w' => e = .returned (.bool true) ∧ Below w.heap.size w w' := by
  obtain ⟨x, rfl, hx⟩ := h0.str Try.underlying9
  exact hback_walk x w hx
end Go.Proofs.Ytahehpgnemanmaa
