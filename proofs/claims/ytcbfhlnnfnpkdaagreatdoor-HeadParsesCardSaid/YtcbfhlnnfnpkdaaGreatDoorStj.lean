/- First lines (layer 15): a version read, on both sides. -/
import Derived.Test.YtcbfhlnnfnpkdaaGreatDoorSti
import Derived.Test.YtcbfhlnnfnpkdaaGreatDoorSth
namespace Go.Proofs.YtcbfhlnnfnpkdaaGreatDoor
open Go.RowKit
set_option linter.unusedVariables false
set_option linter.unusedSimpArgs false

set_option maxRecDepth 100000 in
set_option maxHeartbeats 4000000 in
theorem rformed_any (s : ByteArray) (w : World) (hs : s.size ≤ 100000000) : Calls Tryz.prog 80 #[.string s] w fun e w' => e = .returned (.bool (formS s)) ∧ w' = w := by
  by_cases h8 : s.size = 8
  · have q8 : ((s.size : Int) == 8) = true := by rw [beq_iff_eq]; omega
    have l5 : 5 < s.size := by omega
    have l6 : 6 < s.size := by omega
    have l7 : 7 < s.size := by omega
    have i5 : (5 : Int) < (s.size : Int) := by omega
    have i6 : (6 : Int) < (s.size : Int) := by omega
    have i7 : (7 : Int) < (s.size : Int) := by omega
    have j5 : (5 : Int) ≤ (s.size : Int) := by omega
    have z5 := bt_lt s 5
    have z7 := bt_lt s 7
    have B5 := bt_at s 5 l5
    have B7 := bt_at s 7 l7
    by_cases hp : s.data.toList.take 5 = httpL
    · obtain ⟨p1, p2⟩ := http_yes hp
      have hpb : (s.data.toList.take 5 == httpL) = true := by rw [hp]; rfl
      have D5 : digC (s[5]'l5).toNat = digC (bt s 5) := by rw [B5]
      have D7 : digC (s[7]'l7).toNat = digC (bt s 7) := by rw [B7]
      have u5 : (s[5]'l5).toNat ≤ 255 := by omega
      have u7 : (s[7]'l7).toNat ≤ 255 := by omega
      clear B5 B7
      cases d5 : digC (bt s 5)
      · have HR := Kp.mk (show formS s = false by unfold formS; rw [decide_eq_true h8, hpb, d5]; rfl)
        clear hp hpb
        go_enter Tryz.func80, Tryz.ntmps80
        go_wp2_with fail
        refine (rdigit_any _ _ (by omega)).mono ?_
        rintro e w1 ⟨rfl, rfl⟩
        rw [D5, d5]
        go_wp2_with fail
        go_ret
        exact ⟨by rw [HR.out]; rfl, rfl⟩
      · by_cases h6 : bt s 6 = 46
        · have t6 : (((s[6]'l6).toNat : Int) == 46) = true := by rw [bt_at s 6 l6, beq_iff_eq]; omega
          have HR := Kp.mk (show formS s = digC (bt s 7) by unfold formS; rw [decide_eq_true h8, hpb, d5, decide_eq_true h6]; rfl)
          clear hp hpb
          cases d7 : digC (bt s 7)
          all_goals
            rw [d7] at D7 HR
            go_enter Tryz.func80, Tryz.ntmps80
            go_wp2_with fail
            refine (rdigit_any _ _ (by omega)).mono ?_
            rintro e w1 ⟨rfl, rfl⟩
            rw [D5, d5]
            go_wp2_with fail
            refine (rdigit_any _ _ (by omega)).mono ?_
            rintro e w1 ⟨rfl, rfl⟩
            rw [D7]
            go_wp2_with fail
            go_ret
            exact ⟨by rw [HR.out]; rfl, rfl⟩
        · have t6 : (((s[6]'l6).toNat : Int) == 46) = false := by rw [bt_at s 6 l6, beq_eq_false_iff_ne]; omega
          have HR := Kp.mk (show formS s = false by unfold formS; rw [decide_eq_true h8, hpb, d5, decide_eq_false h6]; rfl)
          clear hp hpb
          go_enter Tryz.func80, Tryz.ntmps80
          go_wp2_with fail
          refine (rdigit_any _ _ (by omega)).mono ?_
          rintro e w1 ⟨rfl, rfl⟩
          rw [D5, d5]
          go_wp2_with fail
          go_ret
          exact ⟨by rw [HR.out]; rfl, rfl⟩
    · obtain ⟨p1, p2⟩ := http_no hp
      have HR := Kp.mk (show formS s = false by unfold formS; rw [decide_eq_true h8, show (s.data.toList.take 5 == httpL) = false by rw [beq_eq_false_iff_ne]; exact hp]; rfl)
      clear hp
      go_enter Tryz.func80, Tryz.ntmps80
      go_wp2_with fail
      go_ret
      exact ⟨by rw [HR.out]; rfl, rfl⟩
  · have q8 : ((s.size : Int) == 8) = false := by rw [beq_eq_false_iff_ne]; omega
    have HR := Kp.mk (show formS s = false by unfold formS; rw [decide_eq_false h8]; rfl)
    go_enter Tryz.func80, Tryz.ntmps80
    go_wp2_with fail
    go_ret
    exact ⟨by rw [HR.out]; rfl, rfl⟩
def MinPost (s : ByteArray) (w : World) (e : Ending) (w' : World) : Prop := e = .returned (.tuple #[.int .i64 (minN s), .int .i64 (minE s)]) ∧ w' = w
set_option maxRecDepth 100000 in
set_option maxHeartbeats 4000000 in
theorem rminor_any (s : ByteArray) (w : World) (hs : s.size ≤ 100000000) : Calls Tryz.prog 79 #[.string s] w (MinPost s w) := by
  rcases minE_cases s with ⟨hf, he, hn⟩ | ⟨hf, h5, he, hn⟩ | ⟨hf, h5, he, hn⟩
  · have HE := Kp.mk he
    have HN := Kp.mk hn
    clear he hn
    go_enter Tryz.func79, Tryz.ntmps79
    go_wp2_with fail
    refine (rformed_any s _ hs).mono ?_
    rintro e w1 ⟨rfl, rfl⟩
    rw [hf]
    go_wp2_with fail
    go_ret2
    exact ⟨by rw [HE.out, HN.out]; rfl, rfl⟩
  · have HE := Kp.mk he
    have HN := Kp.mk hn
    have h8 := (formS_parts hf).1
    have l5 : 5 < s.size := by omega
    have i5 : (5 : Int) < (s.size : Int) := by omega
    have t5 : (((s[5]'l5).toNat : Int) != 49) = true := by rw [bt_at s 5 l5, bne_iff_ne]; omega
    clear he hn h8
    go_enter Tryz.func79, Tryz.ntmps79
    go_wp2_with fail
    refine (rformed_any s _ hs).mono ?_
    rintro e w1 ⟨rfl, rfl⟩
    rw [hf]
    go_wp2_with fail
    go_ret2
    exact ⟨by rw [HE.out, HN.out]; rfl, rfl⟩
  · have HE := Kp.mk he
    obtain ⟨h8, -, -, -, hd⟩ := formS_parts hf
    have l5 : 5 < s.size := by omega
    have l7 : 7 < s.size := by omega
    have i5 : (5 : Int) < (s.size : Int) := by omega
    have i7 : (7 : Int) < (s.size : Int) := by omega
    have t5 : (((s[5]'l5).toNat : Int) != 49) = false := by rw [bt_at s 5 l5]; simp; omega
    have B7 := bt_at s 7 l7
    have hd2 : 48 ≤ bt s 7 ∧ bt s 7 ≤ 57 := by
      unfold digC at hd
      simp only [Bool.and_eq_true, decide_eq_true_eq] at hd
      exact hd
    obtain ⟨m0, m1⟩ := hd2
    clear he hd h8
    by_cases h7 : bt s 7 = 48
    · have HN := Kp.mk (show minN s = 0 by rw [hn, if_pos h7])
      clear hn
      go_enter Tryz.func79, Tryz.ntmps79
      go_wp2_with fail
      refine (rformed_any s _ hs).mono ?_
      rintro e w1 ⟨rfl, rfl⟩
      rw [hf]
      go_wp2_with fail
      go_ret2
      exact ⟨by rw [HE.out, HN.out]; rfl, rfl⟩
    · have HN := Kp.mk (show minN s = 1 by rw [hn, if_neg h7])
      clear hn
      by_cases h9 : bt s 7 = 49
      · rw [h9] at B7
        clear m0 m1 h7 h9
        go_enter Tryz.func79, Tryz.ntmps79
        go_wp2_with fail
        refine (rformed_any s _ hs).mono ?_
        rintro e w1 ⟨rfl, rfl⟩
        rw [hf]
        go_wp2_with fail
        go_ret2
        exact ⟨by rw [HE.out, HN.out]; rfl, rfl⟩
      · have q9 : ¬ ((bt s 7 : Int) - 48 ≤ 1) := by omega
        go_enter Tryz.func79, Tryz.ntmps79
        go_wp2_with fail
        refine (rformed_any s _ hs).mono ?_
        rintro e w1 ⟨rfl, rfl⟩
        rw [hf]
        go_wp2_with fail
        go_ret2
        exact ⟨by rw [HE.out, HN.out]; rfl, rfl⟩
/-- What stands behind the beginning, where there are eight octets. -/
theorem minor_tail {s : ByteArray} (h8 : s.size = 8) : (s.extract 5 s.size).size = 3 ∧ bt (s.extract 5 s.size) 0 = bt s 5 ∧ bt (s.extract 5 s.size) 1 = bt s 6 ∧ bt (s.extract 5 s.size) 2 = bt s 7 :=
  ⟨by rw [ext_len s (Nat.le_refl _)]; omega, bt_ext s (by omega) (Nat.le_refl _), bt_ext s (by omega) (Nat.le_refl _), bt_ext s (by omega) (Nat.le_refl _)⟩
set_option maxRecDepth 100000 in
set_option maxHeartbeats 8000000 in
theorem minor_any (s : ByteArray) (w : World) (hs : s.size ≤ 100000000) : Calls Tryz.prog 62 #[.string s] w (MinPost s w) := by
  have hno : formS s = false → minE s = 3 ∧ minN s = 0 := fun hf => by
    rcases minE_cases s with ⟨-, he, hn⟩ | ⟨hf2, -, -, -⟩ | ⟨hf2, -, -, -⟩
    · exact ⟨he, hn⟩
    · rw [hf] at hf2; cases hf2
    · rw [hf] at hf2; cases hf2
  cases hp : pfxB s
  · have hf : formS s = false := by
      cases hf : formS s
      · rfl
      · obtain ⟨h8, h5, -⟩ := formS_parts hf
        unfold pfxB at hp
        rw [decide_eq_true (by omega), h5] at hp
        cases hp
    obtain ⟨he, hn⟩ := hno hf
    have HE := Kp.mk he
    have HN := Kp.mk hn
    clear he hn hno
    go_enter Tryz.func62, Tryz.ntmps62
    go_wp2_with fail
    refine (cutHttp_no s _ hs hp).mono ?_
    rintro e w1 ⟨rfl, rfl⟩
    go_wp2_with fail
    go_ret2
    exact ⟨by rw [HE.out, HN.out]; rfl, rfl⟩
  · have hpb : 5 ≤ s.size ∧ (s.data.toList.take 5 == httpL) = true := by
      have h := hp
      unfold pfxB at h
      rw [Bool.and_eq_true] at h
      exact ⟨of_decide_eq_true h.1, h.2⟩
    obtain ⟨hp5, hpl⟩ := hpb
    have hxs : (s.extract 5 s.size).size = s.size - 5 := ext_len s (Nat.le_refl _)
    by_cases h8 : s.size = 8
    · obtain ⟨x3, y0, y1, y2⟩ := minor_tail h8
      obtain ⟨x, hx⟩ : ∃ x, s.extract 5 s.size = x := ⟨_, rfl⟩
      rw [hx] at x3 y0 y1 y2
      have HX := Kp.mk hx
      have l0 : 0 < x.size := by omega
      have l1 : 1 < x.size := by omega
      have l2 : 2 < x.size := by omega
      have q3 : ((x.size : Int) != 3) = false := by rw [x3]; rfl
      have i0 : (0 : Int) < (x.size : Int) := by omega
      have i1 : (1 : Int) < (x.size : Int) := by omega
      have i2 : (2 : Int) < (x.size : Int) := by omega
      have z0 := bt_lt x 0
      have z2 := bt_lt x 2
      have B0 := bt_at x 0 l0
      have B1 := bt_at x 1 l1
      have B2 := bt_at x 2 l2
      have D0 : digC (x[0]'l0).toNat = digC (bt s 5) := by rw [B0, y0]
      have u0 : (x[0]'l0).toNat ≤ 255 := by omega
      have u2 : (x[2]'l2).toNat ≤ 255 := by omega
      have D2 : digC (x[2]'l2).toNat = digC (bt s 7) := by rw [B2, y2]
      have fE : formS s = (digC (bt s 5) && decide (bt s 6 = 46) && digC (bt s 7)) := by unfold formS; rw [decide_eq_true h8, hpl]; rfl
      clear hx hxs
      cases d5 : digC (bt s 5)
      · obtain ⟨he, hn⟩ := hno (by rw [fE, d5]; rfl)
        have HE := Kp.mk he
        have HN := Kp.mk hn
        rw [d5] at D0
        clear B0 B1 B2 y0 y1 y2 he hn hno fE h8 hpl
        go_enter Tryz.func62, Tryz.ntmps62
        go_wp2_with fail
        refine (cutHttp_yes s _ hs hp).mono ?_
        rintro e w1 ⟨rfl, rfl⟩
        rw [HX.out]
        go_wp2_with fail
        refine (vdigit_any _ _ (by omega)).mono ?_
        rintro e w2 ⟨rfl, rfl⟩
        rw [D0]
        go_wp2_with fail
        go_ret2
        exact ⟨by rw [HE.out, HN.out]; rfl, rfl⟩
      · by_cases h6 : bt s 6 = 46
        · have t6 : (((x[1]'l1).toNat : Int) != 46) = false := by rw [B1, y1]; simp; omega
          cases d7 : digC (bt s 7)
          · obtain ⟨he, hn⟩ := hno (by rw [fE, d5, d7, Bool.and_false])
            have HE := Kp.mk he
            have HN := Kp.mk hn
            rw [d5] at D0
            rw [d7] at D2
            clear B0 B1 B2 y0 y1 y2 he hn hno fE h8 hpl
            go_enter Tryz.func62, Tryz.ntmps62
            go_wp2_with fail
            refine (cutHttp_yes s _ hs hp).mono ?_
            rintro e w1 ⟨rfl, rfl⟩
            rw [HX.out]
            go_wp2_with fail
            refine (vdigit_any _ _ (by omega)).mono ?_
            rintro e w2 ⟨rfl, rfl⟩
            rw [D0]
            go_wp2_with fail
            refine (vdigit_any _ _ (by omega)).mono ?_
            rintro e w3 ⟨rfl, rfl⟩
            rw [D2]
            go_wp2_with fail
            go_ret2
            exact ⟨by rw [HE.out, HN.out]; rfl, rfl⟩
          · have hf : formS s = true := by rw [fE, d5, d7, decide_eq_true h6]; rfl
            rw [d5] at D0
            rw [d7] at D2
            rcases minE_cases s with ⟨hf2, -, -⟩ | ⟨-, h5, he, hn⟩ | ⟨-, h5, he, hn⟩
            · rw [hf] at hf2; cases hf2
            · have HE := Kp.mk he
              have HN := Kp.mk hn
              have t5 : (((x[0]'l0).toNat : Int) != 49) = true := by rw [B0, y0, bne_iff_ne]; omega
              clear B0 B1 B2 y0 y1 y2 he hn hno fE h8 hpl hf
              go_enter Tryz.func62, Tryz.ntmps62
              go_wp2_with fail
              refine (cutHttp_yes s _ hs hp).mono ?_
              rintro e w1 ⟨rfl, rfl⟩
              rw [HX.out]
              go_wp2_with fail
              refine (vdigit_any _ _ (by omega)).mono ?_
              rintro e w2 ⟨rfl, rfl⟩
              rw [D0]
              go_wp2_with fail
              refine (vdigit_any _ _ (by omega)).mono ?_
              rintro e w3 ⟨rfl, rfl⟩
              rw [D2]
              go_wp2_with fail
              go_ret2
              exact ⟨by rw [HE.out, HN.out]; rfl, rfl⟩
            · have HE := Kp.mk he
              have t5 : (((x[0]'l0).toNat : Int) != 49) = false := by rw [B0, y0]; simp; omega
              by_cases h7 : bt s 7 = 48
              · have HN := Kp.mk (show minN s = 0 by rw [hn, if_pos h7])
                have t7 : (((x[2]'l2).toNat : Int) == 48) = true := by rw [B2, y2, beq_iff_eq]; omega
                clear B0 B1 B2 y0 y1 y2 he hn hno fE h8 hpl hf
                go_enter Tryz.func62, Tryz.ntmps62
                go_wp2_with fail
                refine (cutHttp_yes s _ hs hp).mono ?_
                rintro e w1 ⟨rfl, rfl⟩
                rw [HX.out]
                go_wp2_with fail
                refine (vdigit_any _ _ (by omega)).mono ?_
                rintro e w2 ⟨rfl, rfl⟩
                rw [D0]
                go_wp2_with fail
                refine (vdigit_any _ _ (by omega)).mono ?_
                rintro e w3 ⟨rfl, rfl⟩
                rw [D2]
                go_wp2_with fail
                go_ret2
                exact ⟨by rw [HE.out, HN.out]; rfl, rfl⟩
              · have HN := Kp.mk (show minN s = 1 by rw [hn, if_neg h7])
                have t7 : (((x[2]'l2).toNat : Int) == 48) = false := by rw [B2, y2, beq_eq_false_iff_ne]; omega
                clear B0 B1 B2 y0 y1 y2 he hn hno fE h8 hpl hf
                go_enter Tryz.func62, Tryz.ntmps62
                go_wp2_with fail
                refine (cutHttp_yes s _ hs hp).mono ?_
                rintro e w1 ⟨rfl, rfl⟩
                rw [HX.out]
                go_wp2_with fail
                refine (vdigit_any _ _ (by omega)).mono ?_
                rintro e w2 ⟨rfl, rfl⟩
                rw [D0]
                go_wp2_with fail
                refine (vdigit_any _ _ (by omega)).mono ?_
                rintro e w3 ⟨rfl, rfl⟩
                rw [D2]
                go_wp2_with fail
                go_ret2
                exact ⟨by rw [HE.out, HN.out]; rfl, rfl⟩
        · have t6 : (((x[1]'l1).toNat : Int) != 46) = true := by rw [B1, y1, bne_iff_ne]; omega
          obtain ⟨he, hn⟩ := hno (by rw [fE, d5, decide_eq_false h6]; rfl)
          have HE := Kp.mk he
          have HN := Kp.mk hn
          rw [d5] at D0
          clear B0 B1 B2 y0 y1 y2 he hn hno fE h8 hpl
          go_enter Tryz.func62, Tryz.ntmps62
          go_wp2_with fail
          refine (cutHttp_yes s _ hs hp).mono ?_
          rintro e w1 ⟨rfl, rfl⟩
          rw [HX.out]
          go_wp2_with fail
          refine (vdigit_any _ _ (by omega)).mono ?_
          rintro e w2 ⟨rfl, rfl⟩
          rw [D0]
          go_wp2_with fail
          go_ret2
          exact ⟨by rw [HE.out, HN.out]; rfl, rfl⟩
    · obtain ⟨he, hn⟩ := hno (by unfold formS; rw [decide_eq_false h8]; rfl)
      have HE := Kp.mk he
      have HN := Kp.mk hn
      obtain ⟨x, hx⟩ : ∃ x, s.extract 5 s.size = x := ⟨_, rfl⟩
      rw [hx] at hxs
      have HX := Kp.mk hx
      have q3 : ((x.size : Int) != 3) = true := by rw [bne_iff_ne]; omega
      clear he hn hno hx h8 hpl hxs
      go_enter Tryz.func62, Tryz.ntmps62
      go_wp2_with fail
      refine (cutHttp_yes s _ hs hp).mono ?_
      rintro e w1 ⟨rfl, rfl⟩
      rw [HX.out]
      go_wp2_with fail
      go_ret2
      exact ⟨by rw [HE.out, HN.out]; rfl, rfl⟩
end Go.Proofs.YtcbfhlnnfnpkdaaGreatDoor
