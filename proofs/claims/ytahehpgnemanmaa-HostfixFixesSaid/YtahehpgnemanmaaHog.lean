/- Hosts (layer 11): the document's Parse, Text, Key; the examples; the laws HostParses, HostText, HostBack. -/
import Derived.Test.YtahehpgnemanmaaHof
import Derived.Test.YtahehpgnemanmaaRta
import Derived.Test.YtahehpgnemanmaaGa
namespace Go.Proofs.Ytahehpgnemanmaa
open Go.RowKit
set_option linter.unusedVariables false
set_option linter.unusedSimpArgs false

set_option maxRecDepth 100000 in
set_option maxHeartbeats 2000000 in
theorem rhs_parse_any (s : ByteArray) (w : World) (hs : s.size ≤ 1000000) : Calls Try.prog 10 #[.string s] w fun e w' => e = .returned (hsRet s) ∧ Below w.heap.size w w' := by
  by_cases h0 : 0 < s.size
  · obtain ⟨n1, n2⟩ := hs_nemp h0
    go_enter Try.func10, Try.ntmps10
    go_wp2_with fail
    refine (rhs_name_any s _ hs).mono ?_
    rintro e w1 ⟨k, rfl, hk, rfl⟩
    rcases host_eq hk h0 with ⟨a, b, c⟩ | ⟨a, b, c1, c2, c3, d, f⟩ | ⟨a, b, c, d⟩
    · have HR := Kp.mk (hsRet_whole h0 a b)
      have q1 : ((k : Int) == 0) = false := eq_false_of (by omega)
      have q2 : ((k : Int) == (s.size : Int)) = true := by rw [c]; simp
      clear a b c hk
      go_wp2_with fail
      go_ret3
      exact ⟨by rw [HR.out]; rfl, Below.refl _ _⟩
    · have hnm : hsName s = s.extract 0 k := by unfold hsName; rw [if_pos a, b, Int.toNat_natCast]; rfl
      have hnu : hsNum s = s.extract (k + 1) s.size := by unfold hsNum; rw [if_pos a, b, Int.toNat_natCast]; rfl
      have hd : hsDigs (hsNum s) = true := by rw [hnu]; exact d
      have hn : hsNamed (hsName s) = true := by rw [hnm]; exact f
      have HE := Kp.mk (hsE_num h0 a hd hn)
      have HP := Kp.mk (fun h => hsRet_port h0 a hd hn h)
      have HO := Kp.mk (numE_digs (m := 65535) hd)
      rw [hnu] at HE HP HO
      rw [hnm] at HP
      have q1 : ((k : Int) == 0) = false := eq_false_of (by omega)
      have q2 : ((k : Int) == (s.size : Int)) = false := eq_false_of (by omega)
      have hb := bt_at s k c2
      have q3 : ((bt s k : Int) != 58) = false := by rw [c3]; rfl
      have q4 : (0 : Int) ≤ (k : Int) := by omega
      have q5 : (k : Int) < (s.size : Int) := by omega
      have q6 : (k : Int) + 1 ≤ (s.size : Int) := by omega
      have q7 : (0 : Int) ≤ (k : Int) + 1 := by omega
      have q8 : ((k : Int) + 1).toNat = k + 1 := by omega
      have q9 : (k : Int) ≤ (s.size : Int) := by omega
      have hz : (s.extract (k + 1) s.size).size ≤ 1000000 := by rw [ByteArray.size_extract]; omega
      clear a b c1 c3 d f hk hnm hnu hd hn
      go_wp2_with fail
      refine (ref_number_10_any (s.extract (k + 1) s.size) 65535 _ (by unfold maxLen; omega) (by decide) (by decide)).mono ?_
      rintro e w2 ⟨rfl, rfl⟩
      rcases HO.out with h | h
      · have HR := Kp.mk (HP.out h)
        rw [h]
        clear h
        go_wp2_with fail
        go_ret3
        exact ⟨by rw [HR.out]; rfl, Below.refl _ _⟩
      · have HR := Kp.mk (hsRet_bad (HE.out.trans h) (by decide))
        rw [h]
        clear h
        go_wp2_with fail
        go_ret3
        exact ⟨by rw [HR.out]; rfl, Below.refl _ _⟩
    · have HE : hsE s = 3 := by
        rcases a with ⟨a1, a2⟩ | a
        · exact hsE_digs h0 a1 a2
        · exact hsE_noname h0 a
      have HR := Kp.mk (hsRet_bad HE (by decide))
      clear a HE
      by_cases hk0 : k = 0
      · subst hk0
        go_wp2_with fail
        go_ret3
        exact ⟨by rw [HR.out]; rfl, Below.refl _ _⟩
      · have q1 : ((k : Int) == 0) = false := eq_false_of (by omega)
        have q2 : ((k : Int) == (s.size : Int)) = false := eq_false_of (by omega)
        have hlt : k < s.size := by omega
        have hb := bt_at s k hlt
        have q4 : (0 : Int) ≤ (k : Int) := by omega
        have q5 : (k : Int) < (s.size : Int) := by omega
        rcases d with d | d | ⟨d1, d2⟩
        · exact absurd d hk0
        · have q3 : ((bt s k : Int) != 58) = true := by rw [bne_iff_ne]; omega
          clear hk c d
          go_wp2_with fail
          go_ret3
          exact ⟨by rw [HR.out]; rfl, Below.refl _ _⟩
        · have q3 : ((bt s k : Int) != 58) = false := by rw [d1]; rfl
          have q6 : (k : Int) + 1 ≤ (s.size : Int) := by omega
          have q7 : (0 : Int) ≤ (k : Int) + 1 := by omega
          have q8 : ((k : Int) + 1).toNat = k + 1 := by omega
          have HO := Kp.mk (numE_no (m := 65535) (show hsDigs (s.extract (k + 1) s.size) = false from d2))
          have hz : (s.extract (k + 1) s.size).size ≤ 1000000 := by rw [ByteArray.size_extract]; omega
          clear hk c d1 d2
          go_wp2_with fail
          refine (ref_number_10_any (s.extract (k + 1) s.size) 65535 _ (by unfold maxLen; omega) (by decide) (by decide)).mono ?_
          rintro e w2 ⟨rfl, rfl⟩
          rcases HO.out with h | h
          all_goals
            rw [h]
            clear h
            go_wp2_with fail
            go_ret3
            exact ⟨by rw [HR.out]; rfl, Below.refl _ _⟩
  · obtain rfl := hs_emp h0
    have HR := Kp.mk (hsRet_bad hsE_empty (by decide))
    go_enter Try.func10, Try.ntmps10
    go_wp2_with fail
    go_ret3
    exact ⟨by rw [HR.out]; rfl, Below.refl _ _⟩
set_option maxRecDepth 100000 in
set_option maxHeartbeats 1000000 in
theorem rhs_text_any (nm : ByteArray) (p : Int) (w : World) (hn : nm.size ≤ 1000000) (h0 : -9223372036854775808 ≤ p) (h1 : p ≤ 9223372036854775807) :
    Calls Try.prog 15 #[.string nm, .int .i64 p] w fun e w' => e = .returned (.string (hsTxt nm p)) ∧ Below w.heap.size w w' := by
  by_cases h : p = 80
  · subst h
    have HT := Kp.mk (show hsTxt nm 80 = lowB nm by unfold hsTxt; rw [if_pos rfl])
    go_enter Try.func15, Try.ntmps15
    go_wp2_with fail
    refine (ref_lower_any nm _ (by omega)).mono ?_
    rintro e w1 ⟨rfl, hb⟩
    go_wp2_with fail
    go_ret
    exact ⟨by rw [HT.out]; rfl, hb⟩
  · have q : (p != 80) = true := bne_iff_ne.2 h
    have HT := Kp.mk (show hsTxt nm p = lowB nm ++ ⟨#[58]⟩ ++ ofL (textL p) by unfold hsTxt; rw [if_neg h, app3]; rfl)
    have z1 : (lowB nm).size ≤ 1000000 := by rw [lowB_size]; exact hn
    have z2 : (ofL (textL p)).size ≤ 21 := by rw [ofL_size]; exact textL_len p
    have z3 : (⟨#[58]⟩ : ByteArray).size ≤ 1 := by decide
    clear h
    obtain ⟨L, hL⟩ : ∃ L, lowB nm = L := ⟨_, rfl⟩
    obtain ⟨T, hT⟩ : ∃ T, ofL (textL p) = T := ⟨_, rfl⟩
    have HLE := Kp.mk hL
    have HTE := Kp.mk hT
    rw [hL, hT] at HT
    rw [hL] at z1
    rw [hT] at z2
    clear hL hT
    have z4 : (L ++ ⟨#[58]⟩).size ≤ 1000001 := by rw [ByteArray.size_append]; omega
    go_enter Try.func15, Try.ntmps15
    go_wp2_with fail
    refine (ref_lower_any nm _ (by omega)).mono ?_
    rintro e w1 ⟨rfl, hb⟩
    rw [HLE.out]
    have HB := Kp.mk hb
    clear hb
    go_wp2_with fail
    refine (rtext_any p _ h0 h1).mono ?_
    rintro e w2 ⟨rfl, hb⟩
    rw [HTE.out]
    have HB2 := Kp.mk (HB.out.trans (hb.mono HB.out.size))
    clear hb
    go_wp2_with fail
    go_ret
    exact ⟨by rw [HT.out]; rfl, HB2.out⟩
set_option maxRecDepth 100000 in
set_option maxHeartbeats 1000000 in
theorem rhs_key_any (s : ByteArray) (w : World) (hs : s.size ≤ 1000000) : Calls Try.prog 12 #[.string s] w fun e w' => e = .returned (hsKR s) ∧ Below w.heap.size w w' := by
  have HD := Kp.mk (show hsRet s = .tuple #[.string (hsN s), .int .i64 (hsP s), .int .i64 (hsE s)] from rfl)
  have HK := Kp.mk (show hsKR s = .tuple #[.string (if hsE s = 0 then hsTxt (hsN s) (hsP s) else ⟨#[]⟩), .bool (hsE s == 0)] from rfl)
  have hp := hsP_range s
  have hz := hsN_size s
  generalize hsN s = N at *
  generalize hsP s = p at *
  generalize hsE s = E at *
  go_enter Try.func12, Try.ntmps12
  go_wp2_with fail
  refine (rhs_parse_any s _ hs).mono ?_
  rintro e w1 ⟨rfl, hb⟩
  rw [HD.out]
  have HB := Kp.mk hb
  clear hb
  by_cases hE : E = 0
  · subst hE
    rw [if_pos rfl] at HK
    go_wp2_with fail
    refine (rhs_text_any N p _ (by omega) (by omega) (by omega)).mono ?_
    rintro e w2 ⟨rfl, hb⟩
    have HB2 := Kp.mk (HB.out.trans (hb.mono HB.out.size))
    clear hb
    go_wp2_with fail
    go_ret2
    exact ⟨by rw [HK.out]; rfl, HB2.out⟩
  · have q : (E != 0) = true := bne_iff_ne.2 hE
    rw [if_neg hE, show (E == 0) = false from beq_eq_false_iff_ne.2 hE] at HK
    clear hE
    go_wp2_with fail
    go_ret2
    exact ⟨by rw [HK.out]; rfl, HB.out⟩
/-! ### The examples -/
def exH1 : ByteArray := ⟨#[69, 120, 97, 109, 112, 108, 101, 46, 67, 79, 77, 58, 56, 48]⟩
def exH2 : ByteArray := ⟨#[91, 58, 58, 49, 93, 58, 56, 48, 56, 48]⟩
theorem exH1_key : hsKR exH1 = .tuple #[.string ⟨#[101, 120, 97, 109, 112, 108, 101, 46, 99, 111, 109]⟩, .bool true] := by
  have h1 : hsK exH1 = ⟨#[101, 120, 97, 109, 112, 108, 101, 46, 99, 111, 109]⟩ := by decide +kernel
  have h2 : (hsE exH1 == 0) = true := by decide +kernel
  unfold hsKR
  rw [h1, h2]
theorem exH2_parse : hsRet exH2 = .tuple #[.string ⟨#[91, 58, 58, 49, 93]⟩, .int .i64 8080, .int .i64 0] := by
  have h1 : hsN exH2 = ⟨#[91, 58, 58, 49, 93]⟩ := by decide +kernel
  have h2 : hsE exH2 = 0 := by decide +kernel
  have h3 : hsP exH2 = 8080 := by decide +kernel
  unfold hsRet
  rw [h1, h2, h3]
theorem exH3_text : hsTxt ⟨#[65]⟩ 81 = ⟨#[97, 58, 56, 49]⟩ := by decide +kernel
set_option maxRecDepth 100000 in
set_option maxHeartbeats 1000000 in
theorem lives11_any (w : World) : Calls Try.prog 13 #[] w fun e w' => e = .returned (.bool true) ∧ Below w.heap.size w w' := by
  have H1 := Kp.mk (fun w => hs_key_any exH1 w (by decide))
  rw [exH1_key] at H1
  have H2 := Kp.mk (fun w => hs_parse_any exH2 w (by decide))
  rw [exH2_parse] at H2
  have H3 := Kp.mk (fun w => hs_text_any ⟨#[65]⟩ 81 w (by decide) (by decide) (by decide))
  rw [exH3_text] at H3
  go_enter Try.func13, Try.ntmps13
  go_wp2_with fail
  refine (H1.out _).mono ?_
  rintro e w1 ⟨rfl, hb⟩
  have HB1 := Kp.mk hb
  clear hb
  go_wp2_with fail
  refine (H2.out _).mono ?_
  rintro e w2 ⟨rfl, hb⟩
  have HB2 := Kp.mk (HB1.out.trans (hb.mono HB1.out.size))
  clear hb
  go_wp2_with fail
  refine (H3.out _).mono ?_
  rintro e w3 ⟨rfl, hb⟩
  have HB3 := Kp.mk (HB2.out.trans (hb.mono HB2.out.size))
  clear hb
  go_wp2_with fail
  go_ret
  exact ⟨rfl, HB3.out⟩
end Go.Proofs.Ytahehpgnemanmaa
