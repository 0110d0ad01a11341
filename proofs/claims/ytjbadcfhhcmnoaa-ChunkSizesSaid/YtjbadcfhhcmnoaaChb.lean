/- Lines that begin chunks: Parse, both ways, walked (layer 14). -/
import Derived.Test.YtjbadcfhhcmnoaaCha
namespace Go.Proofs.Ytjbadcfhhcmnoaa
open Go.RowKit
set_option linter.unusedVariables false
set_option linter.unusedSimpArgs false
attribute [local irreducible] preN

theorem x_app (r : ByteArray) : (⟨#[120]⟩ : ByteArray) ++ r = xB r := rfl
theorem ibf {a b : Int} (h : a ≠ b) : (a == b) = false := by rw [beq_eq_false_iff_ne]; exact h

set_option maxRecDepth 100000 in
set_option maxHeartbeats 4000000 in
theorem chk_parse (s : ByteArray) (w : World) (hs : s.size ≤ 100000) :
    Calls Try.prog 45 #[.string s] w fun e w' => e = .returned (.tuple #[.int .i64 (chkV s), .int .i64 (chkE s)]) ∧ Below w.heap.size w w' := by
  by_cases h0 : s.size = 0
  · have HQ := Hd.mk (chk_emp h0)
    have he : s.toList = [] := tl_of_size h0
    clear h0
    go_enter Try.func45, Try.ntmps45
    go_wp2_with fail
    go_ret2
    exact ⟨by rw [HQ.out.1, HQ.out.2]; rfl, Below.refl _ _⟩
  · have he : s.toList.isEmpty = false := tl_ne_size (by omega)
    have H0 := Hd.mk h0
    have z0 := pre_le hexN s
    have hsz : (s.extract (preN hexN s) s.size).size ≤ 100000 := by rw [ext_from, fromB_size]; omega
    clear h0
    go_enter Try.func45, Try.ntmps45
    go_wp2_with fail
    refine (behind_any _ _ (by omega)).mono ?_
    rintro e w1 ⟨rfl, hb1⟩
    go_wp2_with fail
    simp only [ext_from, x_app]
    refine (parse_any (xB (fromB s (preN hexN s))) _ (by rw [xB_size, fromB_size]; omega)).mono ?_
    rintro e w2 ⟨v2, rfl, ho2, hb2⟩
    have HB2 := Hd.mk (below_thn hb1 hb2)
    have HXA := Hd.mk (xB_all (fromB s (preN hexN s)))
    clear hb1 hb2 ho2
    obtain ⟨er, her⟩ : ∃ er, er = (prmAll (xB (fromB s (preN hexN s)))).1 := ⟨_, rfl⟩
    obtain ⟨nm, hnm⟩ : ∃ nm, nm = (prmAll (xB (fromB s (preN hexN s)))).2.1 := ⟨_, rfl⟩
    have HER := Hd.mk her
    have HNM := Hd.mk hnm
    rw [← her, ← hnm]
    clear her hnm
    by_cases hk : preN hexN s = 0
    · have t0 : ((preN hexN s : Int) == 0) = true := szi hk
      have HQ := Hd.mk (chk_no H0.out (by unfold chkOk; rw [hk]; rfl))
      clear hk
      go_wp2_with fail
      go_ret2
      exact ⟨by rw [HQ.out.1, HQ.out.2]; rfl, HB2.out⟩
    · have t0 : ((preN hexN s : Int) == 0) = false := szn (by omega)
      have HK := Hd.mk (show 0 < preN hexN s by omega)
      have hup : (s.extract 0 (preN hexN s)).size ≤ 100000 := by rw [ext_up, upB_size]; omega
      clear hk
      by_cases hgood : er = 0 ∧ nm = ⟨#[120]⟩
      · have HQ := Hd.mk (chk_yes H0.out (show chkOk s = true by
          unfold chkOk
          rw [decide_eq_true HK.out, HXA.out.1 ⟨by rw [← HER.out]; exact hgood.1, by rw [← HNM.out]; exact hgood.2⟩]; rfl))
        obtain ⟨rfl, rfl⟩ := hgood
        go_wp2_with fail
        refine (hex_any _ _ _ (by unfold maxLen; omega) (by omega) (by omega)).mono ?_
        rintro e w3 ⟨rfl, hb3⟩
        simp only [ext_up]
        go_wp2_with fail
        go_ret2
        exact ⟨by rw [HQ.out.1, HQ.out.2]; rfl, below_thn HB2.out hb3⟩
      · have HQ := Hd.mk (chk_no H0.out (show chkOk s = false by
          unfold chkOk
          rw [decide_eq_true HK.out, Bool.true_and]
          cases hh : (parsL ((fromB s (preN hexN s)).size + 1) (fromB s (preN hexN s))).isSome
          · rfl
          · exact absurd (by rw [HER.out, HNM.out]; exact HXA.out.2 hh) hgood))
        by_cases h1 : er = 0
        · obtain rfl := h1
          have h2 : (nm.toList == [120]) = false := by
            rw [beq_eq_false_iff_ne]
            intro h3
            rw [ByteArray.toList_eq] at h3
            exact hgood ⟨rfl, ba_ext (by rw [h3])⟩
          have h3 : (nm.toList == (⟨#[120]⟩ : ByteArray).toList) = false := by
            have e : (⟨#[120]⟩ : ByteArray).toList = [120] := by decide +kernel
            rw [e]; exact h2
          have h4 : ¬ (nm.toList = [120]) := by rw [beq_eq_false_iff_ne] at h2; exact h2
          have h5 : ¬ ((!nm.toList == [120]) = false) := by rw [h2]; decide
          clear hgood
          go_wp2_with fail
          go_ret2
          exact ⟨by rw [HQ.out.1, HQ.out.2]; rfl, HB2.out⟩
        · have h2 := ibf h1
          have h3 : (er != 0) = true := by rw [bne, h2]; rfl
          clear hgood h1
          go_wp2_with fail
          go_ret2
          exact ⟨by rw [HQ.out.1, HQ.out.2]; rfl, HB2.out⟩

theorem chkOk_iff {s : ByteArray} (hk : 0 < preN hexN s) : chkOk s = (parsL ((fromB s (preN hexN s)).size + 1) (fromB s (preN hexN s))).isSome := by unfold chkOk; rw [decide_eq_true hk, Bool.true_and]

set_option maxRecDepth 100000 in
set_option maxHeartbeats 4000000 in
theorem rchk_parse (s : ByteArray) (w : World) (hs : s.size ≤ 100000) :
    Calls Try.prog 46 #[.string s] w fun e w' => e = .returned (.tuple #[.int .i64 (chkV s), .int .i64 (chkE s)]) ∧ Below w.heap.size w w' := by
  by_cases h0 : s.size = 0
  · have HQ := Hd.mk (chk_emp h0)
    have he : s.toList = [] := tl_of_size h0
    clear h0
    go_enter Try.func46, Try.ntmps46
    go_wp2_with fail
    go_ret2
    exact ⟨by rw [HQ.out.1, HQ.out.2]; rfl, Below.refl _ _⟩
  · have he : s.toList.isEmpty = false := tl_ne_size (by omega)
    have H0 := Hd.mk h0
    clear h0
    go_enter Try.func46, Try.ntmps46
    go_wp2_with fail
    go_loop [4] (fun i => ∃ k : Nat, k ≤ s.size ∧ i = .int .i64 k ∧ ∀ j, j < k → hexN (bt s j) = true) (fun i => s.size - (intOf i).toNat)
    case atStart => exact ⟨0, by omega, rfl, fun j h => by omega⟩
    case round =>
      obtain ⟨k, hk, rfl, hp⟩ := hrel
      have HP := Hd.mk hp
      clear hp
      have more : (k < s.size ∧ hexN (bt s k) = true) ∨ preN hexN s = k := by
        by_cases hlt : k < s.size
        · cases hh : hexN (bt s k)
          · exact .inr (preN_of hk HP.out (.inr ⟨hlt, hh⟩))
          · exact .inl ⟨hlt, rfl⟩
        · exact .inr (preN_of hk HP.out (.inl (by omega)))
      rcases more with ⟨hlt, hh⟩ | hpre
      · have HBT := Hd.mk (bt_at s k hlt)
        have h256 := bt_lt s k
        have hd : digV (bt s k) < 16 := by have h9 := hh; unfold hexN at h9; exact of_decide_eq_true h9
        have HH := Hd.mk hh
        clear hh
        go_wp2_with fail
        rw [HBT.out]
        refine (ref_value2_any _ _ (by omega) (by omega)).mono ?_
        rintro e w' ⟨rfl, rfl⟩
        rw [Int.toNat_natCast]
        go_wp2_with fail
        go_round
        case rel => exact ⟨k + 1, by omega, by go_num, fun j hj => by
          by_cases hjk : j < k
          · exact HP.out j hjk
          · obtain rfl : j = k := by omega
            exact HH.out⟩
        case measure => simp [intOf]; omega
      · have HPRE := Hd.mk hpre
        have hway : k < s.size ∧ hexN (bt s k) = false ∨ ¬ k < s.size := by
          by_cases hlt : k < s.size
          · refine .inl ⟨hlt, ?_⟩
            have := preN_stop (P := hexN) (s := s) (by rw [hpre]; exact hlt)
            rwa [hpre] at this
          · exact .inr hlt
        clear hpre
        rcases hway with ⟨hlt, hh⟩ | hlt
        all_goals (first
          | (have HBT := Hd.mk (bt_at s k hlt)
             have h256 := bt_lt s k
             have hd : ¬ digV (bt s k) < 16 := by have h9 := hh; unfold hexN at h9; exact of_decide_eq_false h9
             clear hh
             go_wp2_with fail
             rw [HBT.out]
             refine (ref_value2_any _ _ (by omega) (by omega)).mono ?_
             rintro e w' ⟨rfl, rfl⟩
             rw [Int.toNat_natCast]
             go_wp2_with fail)
          | (go_wp2_with fail))
        all_goals
          by_cases hk0 : k = 0
          · subst hk0
            have HQ := Hd.mk (chk_no H0.out (by unfold chkOk; rw [HPRE.out]; rfl))
            go_loop [5] (fun v => ∃ y : ByteArray, v = .string y ∧ y.toList.isEmpty = false) (fun _ => 0)
            case atStart => exact ⟨_, rfl, by first | exact he | (rw [ext_from, fromB_zero]; exact he)⟩
            case round =>
              obtain ⟨y, rfl, hy⟩ := hrel
              go_wp2_with fail
              go_ret2
              exact ⟨by rw [HQ.out.1, HQ.out.2]; rfl, Below.refl _ _⟩
          · have hkp : 0 < k := by omega
            have t0 : ((k : Int) == 0) = false := szn hkp
            have HOKI := Hd.mk (chkOk_iff (s := s) (by rw [HPRE.out]; exact hkp))
            clear hk0
            go_loopw [5] (fun v wr => ∃ m : Nat, v = .string (fromB s m) ∧ k ≤ m ∧ m ≤ s.size ∧ Below w.heap.size w wr ∧ chkOk s = (parsL (s.size + 1) (fromB s m)).isSome) (fun v _ => szOf v)
            case atStart => exact ⟨k, by rw [← ext_from], by omega, hk, Below.refl _ _, by rw [HOKI.out, HPRE.out, parsL_more _ (s.size + 1) _ (by omega) (by rw [fromB_size]; omega)]⟩
            case round =>
              obtain ⟨m, rfl, hm1, hm2, hbel, hck⟩ := hrel
              have HB := Hd.mk hbel
              have HCK := Hd.mk hck
              have hsz := hbel.size
              have hfs : (fromB s m).size ≤ 100000 := by rw [fromB_size]; omega
              clear hbel hck
              by_cases hd : (fromB s m).size = 0
              · have HQ := Hd.mk (chk_yes H0.out (by rw [HCK.out, parsL_end hd _ (by omega)]; rfl))
                have hee : (fromB s m).toList = [] := tl_of_size hd
                have hup : (s.extract 0 k).size ≤ 100000 := by rw [ext_up, upB_size]; omega
                clear hd
                go_wp2_with fail
                refine (ref_number_16_any _ _ _ (by unfold maxLen; omega) (by omega) (by omega)).mono ?_
                rintro e w' ⟨rfl, rfl⟩
                simp only [ext_up]
                go_wp2_with fail
                go_ret2
                exact ⟨by rw [HQ.out.1, HQ.out.2, HPRE.out]; rfl, HB.out⟩
              · have hee : (fromB s m).toList.isEmpty = false := tl_ne_size (by omega)
                have HD := Hd.mk hd
                clear hd
                go_wp2_with fail
                refine (rpar_any _ _ (by omega)).mono ?_
                rintro e w3 ⟨nm, vl, rest, rfl, hb3, hok⟩
                have HB3 := Hd.mk (HB.out.trans (hb3.mono hsz))
                have HOK := Hd.mk hok
                clear hb3 hok
                cases hp : parOk (fromB s m)
                · have HQ := Hd.mk (chk_no H0.out (by rw [HCK.out, parsL_no HD.out hp]; rfl))
                  clear hp
                  go_wp2_with fail
                  go_ret2
                  exact ⟨by rw [HQ.out.1, HQ.out.2]; rfl, HB3.out.alloc HB3.out.size _⟩
                · have HR := Hd.mk (HOK.out hp).2.2
                  have HP2 := Hd.mk hp
                  have HPE := Hd.mk (parEnd_le hp)
                  have HE := Hd.mk (fromB_from s m (parEnd (fromB s m)))
                  clear hp
                  go_wp2_with fail
                  go_roundw
                  case rel =>
                    have hpe := HPE.out
                    rw [fromB_size] at hpe
                    refine ⟨m + parEnd (fromB s m), by rw [HR.out, ← HE.out], by omega, by omega, HB3.out.alloc HB3.out.size _, ?_⟩
                    rw [HCK.out, parsL_step HD.out HP2.out _ (by rw [fromB_size]; omega), HE.out]
                    cases parsL (s.size + 1) (fromB s (m + parEnd (fromB s m))) <;> rfl
                  case measure =>
                    have hpe := HPE.out
                    rw [fromB_size] at hpe
                    simp only [szOf]; rw [HR.out, HE.out, fromB_size, fromB_size]; omega
end Go.Proofs.Ytjbadcfhhcmnoaa
