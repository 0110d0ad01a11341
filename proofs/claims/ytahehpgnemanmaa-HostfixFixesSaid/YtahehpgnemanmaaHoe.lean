/- Hosts (layer 11): Parse, Text and Key of the program. -/
import Derived.Test.YtahehpgnemanmaaHod
namespace Go.Proofs.Ytahehpgnemanmaa
open Go.RowKit
set_option linter.unusedVariables false
set_option linter.unusedSimpArgs false

theorem hs_fail {s : ByteArray} (h : hsE s ≠ 0) : hsN s = ⟨#[]⟩ ∧ hsP s = 0 := by
  unfold hsN hsP
  rw [if_neg h, if_neg h]
  exact ⟨rfl, rfl⟩
def hsRet (s : ByteArray) : Value := .tuple #[.string (hsN s), .int .i64 (hsP s), .int .i64 (hsE s)]
theorem hsRet_bad {s : ByteArray} {k : Int} (h : hsE s = k) (hk : k ≠ 0) : hsRet s = .tuple #[.string ⟨#[]⟩, .int .i64 0, .int .i64 k] := by
  obtain ⟨a, b⟩ := hs_fail (s := s) (by rw [h]; exact hk)
  unfold hsRet
  rw [a, b, h]
theorem hsE_empty : hsE ⟨#[]⟩ = 2 := rfl
theorem hsE_digs {s : ByteArray} (h0 : 0 < s.size) (h1 : hsHas s = true) (h2 : hsDigs (hsNum s) = false) : hsE s = 3 := by
  unfold hsE
  rw [if_neg (by omega), if_pos ⟨h1, h2⟩]
theorem hsE_noname {s : ByteArray} (h0 : 0 < s.size) (h2 : hsNamed (hsName s) = false) : hsE s = 3 := by
  unfold hsE
  rw [if_neg (by omega)]
  split <;> first | rfl | rw [if_pos h2]
theorem hsE_num {s : ByteArray} (h0 : 0 < s.size) (h1 : hsHas s = true) (h2 : hsDigs (hsNum s) = true) (h3 : hsNamed (hsName s) = true) : hsE s = numE 10 (hsNum s) 65535 := by
  unfold hsE
  rw [if_neg (by omega), if_neg (by rw [h2]; simp), if_neg (by rw [h3]; simp), if_pos h1]
theorem hsRet_whole {s : ByteArray} (h0 : 0 < s.size) (h1 : hsHas s = false) (h3 : hsNamed s = true) : hsRet s = .tuple #[.string s, .int .i64 80, .int .i64 0] := by
  have hn : hsName s = s := by unfold hsName; rw [h1]; rfl
  have hE : hsE s = 0 := by
    unfold hsE
    rw [if_neg (by omega), if_neg (by rw [h1]; simp), hn, if_neg (by rw [h3]; simp), if_neg (by rw [h1]; simp)]
  unfold hsRet hsN hsP
  rw [hE, if_pos rfl, if_pos rfl, hn, if_neg (by rw [h1]; simp)]
theorem hsRet_port {s : ByteArray} (h0 : 0 < s.size) (h1 : hsHas s = true) (h2 : hsDigs (hsNum s) = true) (h3 : hsNamed (hsName s) = true) (h4 : numE 10 (hsNum s) 65535 = 0) :
    hsRet s = .tuple #[.string (hsName s), .int .i64 (numV 10 (hsNum s) 65535), .int .i64 0] := by
  have hE := hsE_num h0 h1 h2 h3
  rw [h4] at hE
  unfold hsRet hsN hsP
  rw [hE, if_pos rfl, if_pos rfl, if_pos h1]
theorem hsCol_spec (s : ByteArray) : hsCol s = -1 ∨ ∃ c : Nat, c < s.size ∧ hsCol s = c := by
  rcases last_spec s 58 with ⟨h, _⟩ | ⟨c, h1, h2, _⟩
  · exact .inl h
  · exact .inr ⟨c, h1, h2⟩
theorem hsBra_spec (s : ByteArray) : -1 ≤ hsBra s ∧ hsBra s < s.size := by
  rcases last_spec s 93 with ⟨h, _⟩ | ⟨c, h1, h2, _⟩
  · have : hsBra s = -1 := h; omega
  · have : hsBra s = c := h2; omega
theorem hs_last58 (s : ByteArray) (w : World) (hs : s.size ≤ 1000000) : Calls Try.prog 33 #[.string s, .int .u8 58] w fun e w' => e = .returned (.int .i64 (hsCol s)) ∧ w = w' :=
  (Try.strings_LastIndexByte s 58 (by omega) w).mono fun _ _ h => ⟨h.1, h.2.symm⟩
theorem hs_last93 (s : ByteArray) (w : World) (hs : s.size ≤ 1000000) : Calls Try.prog 33 #[.string s, .int .u8 93] w fun e w' => e = .returned (.int .i64 (hsBra s)) ∧ w = w' :=
  (Try.strings_LastIndexByte s 93 (by omega) w).mono fun _ _ h => ⟨h.1, h.2.symm⟩
set_option maxRecDepth 100000 in
set_option maxHeartbeats 2000000 in
theorem hs_parse_any (s : ByteArray) (w : World) (hs : s.size ≤ 1000000) : Calls Try.prog 9 #[.string s] w fun e w' => e = .returned (hsRet s) ∧ Below w.heap.size w w' := by
  by_cases h0 : 0 < s.size
  · obtain ⟨n1, n2⟩ := hs_nemp h0
    have hb := hsBra_spec s
    have HL := Kp.mk (fun w => hs_last58 s w hs)
    have HL2 := Kp.mk (fun w => hs_last93 s w hs)
    cases hh : hsHas s
    · have hlt : ¬ hsBra s < hsCol s := of_decide_eq_false hh
      have hnm : hsName s = s := by unfold hsName; rw [hh]; rfl
      have HH := Kp.mk hh
      have HNM := Kp.mk (fun (h : hsNamed s = false) => hsRet_bad (hsE_noname h0 (by rw [hnm]; exact h)) (by decide))
      have HOK := Kp.mk (fun h => hsRet_whole h0 hh h)
      clear hh hnm
      generalize hsCol s = c at *
      generalize hsBra s = b at *
      go_enter Try.func9, Try.ntmps9
      go_wp2_with fail
      refine (HL.out _).mono ?_
      rintro e w1 ⟨rfl, rfl⟩
      go_wp2_with fail
      refine (HL2.out _).mono ?_
      rintro e w1 ⟨rfl, rfl⟩
      go_wp2_with fail
      refine (hs_named_any s _ hs).mono ?_
      rintro e w1 ⟨rfl, hb1⟩
      have HB := Kp.mk hb1
      clear hb1
      cases hn : hsNamed s
      · have HR := Kp.mk (HNM.out hn)
        clear hn
        go_wp2_with fail
        go_ret3
        exact ⟨by rw [HR.out]; rfl, HB.out⟩
      · have HR := Kp.mk (HOK.out hn)
        clear hn
        go_wp2_with fail
        go_ret3
        exact ⟨by rw [HR.out]; rfl, HB.out⟩
    · have hlt : hsBra s < hsCol s := of_decide_eq_true hh
      obtain ⟨c, hc1, hc2⟩ : ∃ c : Nat, c < s.size ∧ hsCol s = c := by
        rcases hsCol_spec s with h | h
        · omega
        · exact h
      have hnm : hsName s = s.extract 0 c := by unfold hsName; rw [if_pos hh, hc2, Int.toNat_natCast]; rfl
      have hnu : hsNum s = s.extract (c + 1) s.size := by unfold hsNum; rw [if_pos hh, hc2, Int.toNat_natCast]; rfl
      have HD := Kp.mk (fun h => hsRet_bad (hsE_digs h0 hh h) (by decide))
      have HNM := Kp.mk (fun (h : hsNamed (hsName s) = false) => hsRet_bad (hsE_noname h0 h) (by decide))
      have HE := Kp.mk (fun h2 h3 => hsE_num h0 hh h2 h3)
      have HOK := Kp.mk (fun h2 h3 h4 => hsRet_port h0 hh h2 h3 h4)
      rw [hnm] at HNM HE HOK
      rw [hnu] at HD HE HOK
      rw [hc2] at HL hlt
      have HX := Kp.mk (show hsDigs (s.extract (c + 1) s.size) = (decide (0 < (s.extract (c + 1) s.size).size) && allB hsDig (s.extract (c + 1) s.size)) from rfl)
      have hz1 : (s.extract 0 c).size ≤ 1000000 := by rw [ByteArray.size_extract]; omega
      have hz2 : (s.extract (c + 1) s.size).size ≤ 1000000 := by rw [ByteArray.size_extract]; omega
      have d1 : (0 : Int) ≤ (c : Int) := by omega
      have d2 : (c : Int) ≤ (s.size : Int) := by omega
      have d3 : (c : Int) + 1 ≤ (s.size : Int) := by omega
      have d4 : (0 : Int) ≤ (c : Int) + 1 := by omega
      have d5 : IntKind.i64.wrap ((c : Int) + 1) = (c : Int) + 1 := wrap_small _ (by omega) (by omega)
      have d6 : ((c : Int) + 1).toNat = c + 1 := by omega
      clear hh hnm hnu hc2
      generalize hsBra s = b at *
      go_enter Try.func9, Try.ntmps9
      go_wp2_with fail
      refine (HL.out _).mono ?_
      rintro e w1 ⟨rfl, rfl⟩
      go_wp2_with fail
      refine (HL2.out _).mono ?_
      rintro e w1 ⟨rfl, rfl⟩
      go_wp2_with fail
      go_quiet (fail)
      have HB0 := Kp.mk (gdrewN w nq)
      generalize w.drewN nq = w0 at *
      clear d5 d6
      generalize s.extract 0 c = X at *
      generalize s.extract (c + 1) s.size = Y at *
      go_wp2_with fail
      refine (hs_all_any 35 hsDig hsDig_high hs_digit_any callF_hsdig Y _ (by unfold maxLen; omega)).mono ?_
      rintro e w1 ⟨rfl, hb1⟩
      have HB1 := Kp.mk (HB0.out.trans (hb1.mono HB0.out.size))
      clear hb1
      cases ha : allB hsDig Y
      · have HR := Kp.mk (HD.out (by rw [HX.out, ha, Bool.and_false]))
        clear ha
        go_wp2_with fail
        go_ret3
        exact ⟨by rw [HR.out]; rfl, HB1.out⟩
      · by_cases hy : 0 < Y.size
        · obtain ⟨y1, y2⟩ := hs_nemp hy
          have HDG := Kp.mk (show hsDigs Y = true by rw [HX.out, ha, decide_eq_true hy]; rfl)
          clear ha
          go_wp2_with fail
          refine (hs_named_any X _ hz1).mono ?_
          rintro e w2 ⟨rfl, hb2⟩
          have HB2 := Kp.mk (HB1.out.trans (hb2.mono HB1.out.size))
          clear hb2
          cases hn : hsNamed X
          · have HR := Kp.mk (HNM.out hn)
            clear hn
            go_wp2_with fail
            go_ret3
            exact ⟨by rw [HR.out]; rfl, HB2.out⟩
          · have HE1 := Kp.mk (HE.out HDG.out hn)
            have HOK1 := Kp.mk (HOK.out HDG.out hn)
            clear hn
            go_wp2_with fail
            refine (dec_any Y 65535 _ (by unfold maxLen; omega) (by decide) (by decide)).mono ?_
            rintro e w3 ⟨rfl, hb3⟩
            have HB3 := Kp.mk (HB2.out.trans (hb3.mono HB2.out.size))
            clear hb3
            by_cases he : numE 10 Y 65535 = 0
            · have HR := Kp.mk (HOK1.out he)
              rw [he]
              clear he
              go_wp2_with fail
              go_ret3
              exact ⟨by rw [HR.out]; rfl, HB3.out⟩
            · have HR := Kp.mk (hsRet_bad HE1.out he)
              have he2 : (numE 10 Y 65535 != 0) = true := bne_iff_ne.2 he
              generalize numE 10 Y 65535 = ee at *
              go_wp2_with fail
              go_ret3
              exact ⟨by rw [HR.out]; rfl, HB3.out⟩
        · obtain rfl := hs_emp hy
          have HR := Kp.mk (HD.out (by rw [HX.out]; rfl))
          clear ha
          go_wp2_with fail
          go_ret3
          exact ⟨by rw [HR.out]; rfl, HB1.out⟩
  · obtain rfl := hs_emp h0
    have HR := Kp.mk (hsRet_bad hsE_empty (by decide))
    go_enter Try.func9, Try.ntmps9
    go_wp2_with fail
    go_ret3
    exact ⟨by rw [HR.out]; rfl, Below.refl _ _⟩
theorem app3 (a b c : ByteArray) : a ++ b ++ c = a ++ (b ++ c) := ba_ext (by simp)
set_option maxRecDepth 100000 in
set_option maxHeartbeats 1000000 in
theorem hs_text_any (nm : ByteArray) (p : Int) (w : World) (hn : nm.size ≤ 1000000) (h0 : -9223372036854775808 ≤ p) (h1 : p ≤ 9223372036854775807) :
    Calls Try.prog 14 #[.string nm, .int .i64 p] w fun e w' => e = .returned (.string (hsTxt nm p)) ∧ Below w.heap.size w w' := by
  by_cases h : p = 80
  · subst h
    have HT := Kp.mk (show hsTxt nm 80 = lowB nm by unfold hsTxt; rw [if_pos rfl])
    go_enter Try.func14, Try.ntmps14
    go_wp2_with fail
    refine (oct_lower_any nm _ (by omega)).mono ?_
    rintro e w1 ⟨rfl, hb⟩
    go_wp2_with fail
    go_ret
    exact ⟨by rw [HT.out]; rfl, hb⟩
  · have q : (p == 80) = false := beq_eq_false_iff_ne.2 h
    have HT := Kp.mk (show hsTxt nm p = lowB nm ++ ⟨#[58]⟩ ++ ofL (textL p) by unfold hsTxt; rw [if_neg h, app3]; rfl)
    have z1 : (lowB nm).size ≤ 1000000 := by rw [lowB_size]; exact hn
    have z2 : (ofL (textL p)).size ≤ 21 := by rw [ofL_size]; exact textL_len p
    have z3 : (⟨#[58]⟩ : ByteArray).size ≤ 1 := by decide
    clear h
    have HLE : Kp (lowB nm = lowB nm) := ⟨rfl⟩
    have HTE : Kp (ofL (textL p) = ofL (textL p)) := ⟨rfl⟩
    obtain ⟨L, hL⟩ : ∃ L, lowB nm = L := ⟨_, rfl⟩
    obtain ⟨T, hT⟩ : ∃ T, ofL (textL p) = T := ⟨_, rfl⟩
    replace HLE := Kp.mk hL
    replace HTE := Kp.mk hT
    rw [hL, hT] at HT
    rw [hL] at z1
    rw [hT] at z2
    clear hL hT
    have z4 : (L ++ ⟨#[58]⟩).size ≤ 1000001 := by rw [ByteArray.size_append]; omega
    go_enter Try.func14, Try.ntmps14
    go_wp2_with fail
    refine (oct_lower_any nm _ (by omega)).mono ?_
    rintro e w1 ⟨rfl, hb⟩
    rw [HLE.out]
    have HB := Kp.mk hb
    clear hb
    go_wp2_with fail
    refine (text_any p _ h0 h1).mono ?_
    rintro e w2 ⟨rfl, hb⟩
    rw [HTE.out]
    have HB2 := Kp.mk (HB.out.trans (hb.mono HB.out.size))
    clear hb
    go_wp2_with fail
    go_ret
    exact ⟨by rw [HT.out]; rfl, HB2.out⟩
def hsKR (s : ByteArray) : Value := .tuple #[.string (hsK s), .bool (hsE s == 0)]
theorem hsN_size (s : ByteArray) : (hsN s).size ≤ s.size := by
  unfold hsN hsName hsUp
  split
  · split
    · rw [ByteArray.size_extract]; omega
    · omega
  · show 0 ≤ s.size; omega
set_option maxRecDepth 100000 in
set_option maxHeartbeats 1000000 in
theorem hs_key_any (s : ByteArray) (w : World) (hs : s.size ≤ 1000000) : Calls Try.prog 11 #[.string s] w fun e w' => e = .returned (hsKR s) ∧ Below w.heap.size w w' := by
  have HD := Kp.mk (show hsRet s = .tuple #[.string (hsN s), .int .i64 (hsP s), .int .i64 (hsE s)] from rfl)
  have HK := Kp.mk (show hsKR s = .tuple #[.string (if hsE s = 0 then hsTxt (hsN s) (hsP s) else ⟨#[]⟩), .bool (hsE s == 0)] from rfl)
  have hp := hsP_range s
  have hz := hsN_size s
  generalize hsN s = N at *
  generalize hsP s = p at *
  generalize hsE s = E at *
  go_enter Try.func11, Try.ntmps11
  go_wp2_with fail
  refine (hs_parse_any s _ hs).mono ?_
  rintro e w1 ⟨rfl, hb⟩
  rw [HD.out]
  have HB := Kp.mk hb
  clear hb
  by_cases hE : E = 0
  · subst hE
    rw [if_pos rfl] at HK
    go_wp2_with fail
    refine (hs_text_any N p _ (by omega) (by omega) (by omega)).mono ?_
    rintro e w2 ⟨rfl, hb⟩
    have HB2 := Kp.mk (HB.out.trans (hb.mono HB.out.size))
    clear hb
    go_wp2_with fail
    go_ret2
    exact ⟨by rw [HK.out]; rfl, HB2.out⟩
  · have q : (E != 0) = true := bne_iff_ne.2 hE
    rw [if_neg hE, show (E == 0) = false from beq_eq_false_iff_ne.2 hE] at HK
    clear hE
    go_wp2_with fail
    go_ret2
    exact ⟨by rw [HK.out]; rfl, HB.out⟩
end Go.Proofs.Ytahehpgnemanmaa
