/- First lines (layer 15): a response's line read, the document's. -/
import Derived.Test.YtcbfhlnnfnpkdaaGreatDoorStp
import Derived.Test.YtcbfhlnnfnpkdaaGreatDoorKeeps
namespace Go.Proofs.YtcbfhlnnfnpkdaaGreatDoor
open Go.RowKit
set_option linter.unusedVariables false
set_option linter.unusedSimpArgs false

theorem staF_eq (s : ByteArray) : staF s = (decide (12 ≤ s.size) && (formS (s.extract 0 8) && (decide (bt s 8 = 32) && (digC (bt s 9) && (digC (bt s 10) && (digC (bt s 11) && (decide (s.size ≤ 12) || decide (bt s 12 = 32)))))))) := rfl
theorem allB_empS : allB valueB ⟨#[]⟩ = true := rfl
set_option maxRecDepth 100000 in
set_option maxHeartbeats 4000000 in
theorem rstatus_any (s : ByteArray) (w : World) (hs : s.size ≤ 1000000) : Calls Tryz.prog 30 #[.string s] w (StaPost s w) := by
  have HA := Kp.mk ((Below.refl w.heap.size w).alloc (Nat.le_refl _) (.cells #[.string ⟨#[]⟩, .string ⟨#[]⟩, .int .i64 0, .int .i64 0, .string ⟨#[]⟩, .slice none 0 0] 29))
  have he8 : (s.extract 0 8).size ≤ s.size := ext_sizeS _ _ _
  have he3 : (s.extract 9 12).size ≤ s.size := ext_sizeS _ _ _
  have he13 : (s.extract 13 s.size).size ≤ s.size := ext_sizeS _ _ _
  have hbad : staF s = false → StaBad s 3 := fun h => sta_bad (by unfold staE; rw [if_pos h]) (by decide)
  have hF := staF_eq s
  by_cases h12 : 12 ≤ s.size
  · rw [decide_eq_true h12, Bool.true_and] at hF
    have q12 : ¬ (s.size : Int) < 12 := by omega
    have j8 : (8 : Int) ≤ (s.size : Int) := by omega
    have j9 : (12 : Int) ≤ (s.size : Int) := by omega
    have l8 : 8 < s.size := by omega
    have l9 : 9 < s.size := by omega
    have l10 : 10 < s.size := by omega
    have l11 : 11 < s.size := by omega
    have i8 : (8 : Int) < (s.size : Int) := by omega
    have i9 : (9 : Int) < (s.size : Int) := by omega
    have i10 : (10 : Int) < (s.size : Int) := by omega
    have i11 : (11 : Int) < (s.size : Int) := by omega
    have u9 : (s[9]'l9).toNat ≤ 255 := by have := bt_lt s 9; rw [bt_at s 9 l9]; omega
    have u10 : (s[10]'l10).toNat ≤ 255 := by have := bt_lt s 10; rw [bt_at s 10 l10]; omega
    have u11 : (s[11]'l11).toNat ≤ 255 := by have := bt_lt s 11; rw [bt_at s 11 l11]; omega
    have D9 : digC (s[9]'l9).toNat = digC (bt s 9) := by rw [bt_at s 9 l9]
    have D10 : digC (s[10]'l10).toNat = digC (bt s 10) := by rw [bt_at s 10 l10]
    have D11 : digC (s[11]'l11).toNat = digC (bt s 11) := by rw [bt_at s 11 l11]
    cases hf : formS (s.extract 0 8)
    · have HX := Kp.mk (hbad (by rw [hF, hf]; rfl))
      clear hbad hF
      go_enter Tryz.func30, Tryz.ntmps30
      go_wp2_with fail
      refine (rformed_any (s.extract 0 8) _ (by omega)).mono ?_
      rintro e w1 ⟨rfl, rfl⟩
      rw [hf]
      go_wp2_with fail
      exact bodyPost_ret (v := .tuple #[.agg #[.string ⟨#[]⟩, .string ⟨#[]⟩, .int .i64 0, .int .i64 0, .string ⟨#[]⟩, .slice none 0 0], .int .i64 3]) (by simp [results, Tryz.results30, go_sem]) rfl ⟨by rw [HX.out.1, HX.out.2.1, HX.out.2.2.1, HX.out.2.2.2], HA.out⟩
    · by_cases h8 : bt s 8 = 32
      · have t8 : (((s[8]'l8).toNat : Int) != 32) = false := by rw [bt_at s 8 l8]; simp; omega
        cases d9 : digC (bt s 9)
        · have HX := Kp.mk (hbad (by rw [hF, hf, d9]; simp))
          rw [d9] at D9
          clear hbad hF h8
          go_enter Tryz.func30, Tryz.ntmps30
          go_wp2_with fail
          refine (rformed_any (s.extract 0 8) _ (by omega)).mono ?_
          rintro e w1 ⟨rfl, rfl⟩
          rw [hf]
          go_wp2_with fail
          refine (rdigit_any _ _ (by omega)).mono ?_
          rintro e w1 ⟨rfl, rfl⟩
          rw [D9]
          go_wp2_with fail
          exact bodyPost_ret (v := .tuple #[.agg #[.string ⟨#[]⟩, .string ⟨#[]⟩, .int .i64 0, .int .i64 0, .string ⟨#[]⟩, .slice none 0 0], .int .i64 3]) (by simp [results, Tryz.results30, go_sem]) rfl ⟨by rw [HX.out.1, HX.out.2.1, HX.out.2.2.1, HX.out.2.2.2], HA.out⟩
        · rw [d9] at D9
          cases d10 : digC (bt s 10)
          · have HX := Kp.mk (hbad (by rw [hF, hf, d9, d10]; simp))
            rw [d10] at D10
            clear hbad hF h8
            go_enter Tryz.func30, Tryz.ntmps30
            go_wp2_with fail
            refine (rformed_any (s.extract 0 8) _ (by omega)).mono ?_
            rintro e w1 ⟨rfl, rfl⟩
            rw [hf]
            go_wp2_with fail
            refine (rdigit_any _ _ (by omega)).mono ?_
            rintro e w1 ⟨rfl, rfl⟩
            rw [D9]
            go_wp2_with fail
            refine (rdigit_any _ _ (by omega)).mono ?_
            rintro e w1 ⟨rfl, rfl⟩
            rw [D10]
            go_wp2_with fail
            exact bodyPost_ret (v := .tuple #[.agg #[.string ⟨#[]⟩, .string ⟨#[]⟩, .int .i64 0, .int .i64 0, .string ⟨#[]⟩, .slice none 0 0], .int .i64 3]) (by simp [results, Tryz.results30, go_sem]) rfl ⟨by rw [HX.out.1, HX.out.2.1, HX.out.2.2.1, HX.out.2.2.2], HA.out⟩
          · rw [d10] at D10
            cases d11 : digC (bt s 11)
            · have HX := Kp.mk (hbad (by rw [hF, hf, d9, d10, d11]; simp))
              rw [d11] at D11
              clear hbad hF h8
              go_enter Tryz.func30, Tryz.ntmps30
              go_wp2_with fail
              refine (rformed_any (s.extract 0 8) _ (by omega)).mono ?_
              rintro e w1 ⟨rfl, rfl⟩
              rw [hf]
              go_wp2_with fail
              refine (rdigit_any _ _ (by omega)).mono ?_
              rintro e w1 ⟨rfl, rfl⟩
              rw [D9]
              go_wp2_with fail
              refine (rdigit_any _ _ (by omega)).mono ?_
              rintro e w1 ⟨rfl, rfl⟩
              rw [D10]
              go_wp2_with fail
              refine (rdigit_any _ _ (by omega)).mono ?_
              rintro e w1 ⟨rfl, rfl⟩
              rw [D11]
              go_wp2_with fail
              exact bodyPost_ret (v := .tuple #[.agg #[.string ⟨#[]⟩, .string ⟨#[]⟩, .int .i64 0, .int .i64 0, .string ⟨#[]⟩, .slice none 0 0], .int .i64 3]) (by simp [results, Tryz.results30, go_sem]) rfl ⟨by rw [HX.out.1, HX.out.2.1, HX.out.2.2.1, HX.out.2.2.2], HA.out⟩
            · rw [d11] at D11
              rw [hf, d9, d10, d11, decide_eq_true h8] at hF
              by_cases hz : s.size ≤ 12
              · have hT : staF s = true := by rw [hF, decide_eq_true hz]; rfl
                have q13 : ¬ (12 : Int) < (s.size : Int) := by omega
                have p13 : ¬ (13 : Int) < (s.size : Int) := by omega
                have HXE := Kp.mk (show staX s = ⟨#[]⟩ from emptyS (by unfold staX; rw [ext_len']; omega))
                clear hbad hF h8
                go_enter Tryz.func30, Tryz.ntmps30
                go_wp2_with fail
                refine (rformed_any (s.extract 0 8) _ (by omega)).mono ?_
                rintro e w1 ⟨rfl, rfl⟩
                rw [hf]
                go_wp2_with fail
                refine (rdigit_any _ _ (by omega)).mono ?_
                rintro e w1 ⟨rfl, rfl⟩
                rw [D9]
                go_wp2_with fail
                refine (rdigit_any _ _ (by omega)).mono ?_
                rintro e w1 ⟨rfl, rfl⟩
                rw [D10]
                go_wp2_with fail
                refine (rdigit_any _ _ (by omega)).mono ?_
                rintro e w1 ⟨rfl, rfl⟩
                rw [D11]
                go_wp2_with fail
                refine (rminor_any (s.extract 0 8) _ (by omega)).mono ?_
                rintro e w1 ⟨rfl, rfl⟩
                have HS := Kp.mk (sta_cases s)
                have HN := Kp.mk (And.intro (sta_num hT).2.1 (sta_num hT).1)
                have HFT := Kp.mk hT
                clear hT
                rcases HS.out with ⟨hT2, -⟩ | ⟨-, hm, hx⟩ | ⟨-, hm, hv, hx⟩ | ⟨-, hm, hv, hv2, h4, hx⟩ | ⟨-, hm, hv, hv2, h4, hx⟩
                · have h9 := HFT.out
                  rw [hT2] at h9
                  cases h9
                · have HX := Kp.mk hx
                  have q : (minE (s.extract 0 8) != 0) = true := by rw [bne_iff_ne]; exact hm
                  clear hx hm HS
                  go_wp2_with fail
                  exact bodyPost_ret (v := .tuple #[.agg #[.string ⟨#[]⟩, .string ⟨#[]⟩, .int .i64 0, .int .i64 0, .string ⟨#[]⟩, .slice none 0 0], .int .i64 (minE (s.extract 0 8))]) (by simp [results, Tryz.results30, go_sem]) rfl ⟨by rw [HX.out.1, HX.out.2.1, HX.out.2.2.1, HX.out.2.2.2], HA.out⟩
                · have HX := Kp.mk hx
                  have HM := Kp.mk hm
                  clear hx hm HS
                  rw [HM.out]
                  go_wp2_with fail
                  refine (ref_number_10_any (s.extract 9 12) 999 _ (by unfold maxLen; omega) (by omega) (by omega)).mono ?_
                  rintro e w1 ⟨rfl, rfl⟩
                  rw [HN.out.1, HN.out.2]
                  by_cases hv1 : staV s < 100
                  · have r1 : (staV s : Int) < 100 := by omega
                    clear hv hv1
                    go_wp2_with fail
                    exact bodyPost_ret (v := .tuple #[.agg #[.string ⟨#[]⟩, .string ⟨#[]⟩, .int .i64 0, .int .i64 0, .string ⟨#[]⟩, .slice none 0 0], .int .i64 12]) (by simp [results, Tryz.results30, go_sem]) rfl ⟨by rw [HX.out.1, HX.out.2.1, HX.out.2.2.1, HX.out.2.2.2], HA.out⟩
                  · have r1 : ¬ (staV s : Int) < 100 := by omega
                    have r2 : (599 : Int) < (staV s : Int) := by omega
                    clear hv hv1
                    go_wp2_with fail
                    exact bodyPost_ret (v := .tuple #[.agg #[.string ⟨#[]⟩, .string ⟨#[]⟩, .int .i64 0, .int .i64 0, .string ⟨#[]⟩, .slice none 0 0], .int .i64 12]) (by simp [results, Tryz.results30, go_sem]) rfl ⟨by rw [HX.out.1, HX.out.2.1, HX.out.2.2.1, HX.out.2.2.2], HA.out⟩
                · exact absurd h4 (by rw [HXE.out]; decide)
                · have HX := Kp.mk hx
                  have HM := Kp.mk hm
                  have r1 : ¬ (staV s : Int) < 100 := by omega
                  have r2 : ¬ (599 : Int) < (staV s : Int) := by omega
                  clear hx hm h4 HS hv hv2
                  rw [HM.out]
                  go_wp2_with fail
                  refine (ref_number_10_any (s.extract 9 12) 999 _ (by unfold maxLen; omega) (by omega) (by omega)).mono ?_
                  rintro e w1 ⟨rfl, rfl⟩
                  rw [HN.out.1, HN.out.2]
                  go_wp2_with fail
                  refine (ref_value_any _ _ (by first | (unfold maxLen; omega) | decide)).mono ?_
                  rintro e w1 ⟨rfl, rfl⟩
                  rw [allB_empS]
                  go_wp2_with fail
                  exact bodyPost_ret (v := .tuple #[.agg #[.string ⟨#[]⟩, .string ⟨#[]⟩, .int .i64 (minN (s.extract 0 8)), .int .i64 (staV s), .string ⟨#[]⟩, .slice none 0 0], .int .i64 0]) (by simp [results, Tryz.results30, go_sem]) rfl ⟨by rw [HX.out.1, HX.out.2.1, HX.out.2.2.1, HX.out.2.2.2, HXE.out], (((Below.refl w.heap.size w).alloc (Nat.le_refl _) _).alloc (by simp) _)⟩
              · have l12 : 12 < s.size := by omega
                have i12 : (12 : Int) < (s.size : Int) := by omega
                by_cases h32 : bt s 12 = 32
                · have hT : staF s = true := by rw [hF, decide_eq_true h32]; simp
                  have t12 : (((s[12]'l12).toNat : Int) != 32) = false := by rw [bt_at s 12 l12]; simp; omega
                  clear hbad hF h8 h32
                  by_cases h13 : 13 < s.size
                  · have p13 : (13 : Int) < (s.size : Int) := by omega
                    have p13b : (13 : Int) ≤ (s.size : Int) := by omega
                    go_enter Tryz.func30, Tryz.ntmps30
                    go_wp2_with fail
                    refine (rformed_any (s.extract 0 8) _ (by omega)).mono ?_
                    rintro e w1 ⟨rfl, rfl⟩
                    rw [hf]
                    go_wp2_with fail
                    refine (rdigit_any _ _ (by omega)).mono ?_
                    rintro e w1 ⟨rfl, rfl⟩
                    rw [D9]
                    go_wp2_with fail
                    refine (rdigit_any _ _ (by omega)).mono ?_
                    rintro e w1 ⟨rfl, rfl⟩
                    rw [D10]
                    go_wp2_with fail
                    refine (rdigit_any _ _ (by omega)).mono ?_
                    rintro e w1 ⟨rfl, rfl⟩
                    rw [D11]
                    go_wp2_with fail
                    refine (rminor_any (s.extract 0 8) _ (by omega)).mono ?_
                    rintro e w1 ⟨rfl, rfl⟩
                    have HS := Kp.mk (sta_cases s)
                    have HN := Kp.mk (And.intro (sta_num hT).2.1 (sta_num hT).1)
                    have HFT := Kp.mk hT
                    clear hT
                    rcases HS.out with ⟨hT2, -⟩ | ⟨-, hm, hx⟩ | ⟨-, hm, hv, hx⟩ | ⟨-, hm, hv, hv2, h4, hx⟩ | ⟨-, hm, hv, hv2, h4, hx⟩
                    · have h9 := HFT.out
                      rw [hT2] at h9
                      cases h9
                    · have HX := Kp.mk hx
                      have q : (minE (s.extract 0 8) != 0) = true := by rw [bne_iff_ne]; exact hm
                      clear hx hm HS
                      go_wp2_with fail
                      exact bodyPost_ret (v := .tuple #[.agg #[.string ⟨#[]⟩, .string ⟨#[]⟩, .int .i64 0, .int .i64 0, .string ⟨#[]⟩, .slice none 0 0], .int .i64 (minE (s.extract 0 8))]) (by simp [results, Tryz.results30, go_sem]) rfl ⟨by rw [HX.out.1, HX.out.2.1, HX.out.2.2.1, HX.out.2.2.2], HA.out⟩
                    · have HX := Kp.mk hx
                      have HM := Kp.mk hm
                      clear hx hm HS
                      rw [HM.out]
                      go_wp2_with fail
                      refine (ref_number_10_any (s.extract 9 12) 999 _ (by unfold maxLen; omega) (by omega) (by omega)).mono ?_
                      rintro e w1 ⟨rfl, rfl⟩
                      rw [HN.out.1, HN.out.2]
                      by_cases hv1 : staV s < 100
                      · have r1 : (staV s : Int) < 100 := by omega
                        clear hv hv1
                        go_wp2_with fail
                        exact bodyPost_ret (v := .tuple #[.agg #[.string ⟨#[]⟩, .string ⟨#[]⟩, .int .i64 0, .int .i64 0, .string ⟨#[]⟩, .slice none 0 0], .int .i64 12]) (by simp [results, Tryz.results30, go_sem]) rfl ⟨by rw [HX.out.1, HX.out.2.1, HX.out.2.2.1, HX.out.2.2.2], HA.out⟩
                      · have r1 : ¬ (staV s : Int) < 100 := by omega
                        have r2 : (599 : Int) < (staV s : Int) := by omega
                        clear hv hv1
                        go_wp2_with fail
                        exact bodyPost_ret (v := .tuple #[.agg #[.string ⟨#[]⟩, .string ⟨#[]⟩, .int .i64 0, .int .i64 0, .string ⟨#[]⟩, .slice none 0 0], .int .i64 12]) (by simp [results, Tryz.results30, go_sem]) rfl ⟨by rw [HX.out.1, HX.out.2.1, HX.out.2.2.1, HX.out.2.2.2], HA.out⟩
                    · have HX := Kp.mk hx
                      have HM := Kp.mk hm
                      have H4 := Kp.mk (show allB valueB (s.extract 13 s.size) = false from h4)
                      have r1 : ¬ (staV s : Int) < 100 := by omega
                      have r2 : ¬ (599 : Int) < (staV s : Int) := by omega
                      clear hx hm h4 HS hv hv2
                      rw [HM.out]
                      go_wp2_with fail
                      refine (ref_number_10_any (s.extract 9 12) 999 _ (by unfold maxLen; omega) (by omega) (by omega)).mono ?_
                      rintro e w1 ⟨rfl, rfl⟩
                      rw [HN.out.1, HN.out.2]
                      go_wp2_with fail
                      refine (ref_value_any _ _ (by first | (unfold maxLen; omega) | decide)).mono ?_
                      rintro e w1 ⟨rfl, rfl⟩
                      rw [H4.out]
                      go_wp2_with fail
                      exact bodyPost_ret (v := .tuple #[.agg #[.string ⟨#[]⟩, .string ⟨#[]⟩, .int .i64 0, .int .i64 0, .string ⟨#[]⟩, .slice none 0 0], .int .i64 7]) (by simp [results, Tryz.results30, go_sem]) rfl ⟨by rw [HX.out.1, HX.out.2.1, HX.out.2.2.1, HX.out.2.2.2], (HA.out.alloc (by simp) _)⟩
                    · have HX := Kp.mk hx
                      have HM := Kp.mk hm
                      have H4 := Kp.mk (show allB valueB (s.extract 13 s.size) = true from h4)
                      have r1 : ¬ (staV s : Int) < 100 := by omega
                      have r2 : ¬ (599 : Int) < (staV s : Int) := by omega
                      clear hx hm h4 HS hv hv2
                      rw [HM.out]
                      go_wp2_with fail
                      refine (ref_number_10_any (s.extract 9 12) 999 _ (by unfold maxLen; omega) (by omega) (by omega)).mono ?_
                      rintro e w1 ⟨rfl, rfl⟩
                      rw [HN.out.1, HN.out.2]
                      go_wp2_with fail
                      refine (ref_value_any _ _ (by first | (unfold maxLen; omega) | decide)).mono ?_
                      rintro e w1 ⟨rfl, rfl⟩
                      rw [H4.out]
                      go_wp2_with fail
                      exact bodyPost_ret (v := .tuple #[.agg #[.string ⟨#[]⟩, .string ⟨#[]⟩, .int .i64 (minN (s.extract 0 8)), .int .i64 (staV s), .string (s.extract 13 s.size), .slice none 0 0], .int .i64 0]) (by simp [results, Tryz.results30, go_sem]) rfl ⟨by rw [HX.out.1, HX.out.2.1, HX.out.2.2.1, HX.out.2.2.2, staX], (((Below.refl w.heap.size w).alloc (Nat.le_refl _) _).alloc (by simp) _)⟩
                  · have p13 : ¬ (13 : Int) < (s.size : Int) := by omega
                    have HXE := Kp.mk (show staX s = ⟨#[]⟩ from emptyS (by unfold staX; rw [ext_len']; omega))
                    go_enter Tryz.func30, Tryz.ntmps30
                    go_wp2_with fail
                    refine (rformed_any (s.extract 0 8) _ (by omega)).mono ?_
                    rintro e w1 ⟨rfl, rfl⟩
                    rw [hf]
                    go_wp2_with fail
                    refine (rdigit_any _ _ (by omega)).mono ?_
                    rintro e w1 ⟨rfl, rfl⟩
                    rw [D9]
                    go_wp2_with fail
                    refine (rdigit_any _ _ (by omega)).mono ?_
                    rintro e w1 ⟨rfl, rfl⟩
                    rw [D10]
                    go_wp2_with fail
                    refine (rdigit_any _ _ (by omega)).mono ?_
                    rintro e w1 ⟨rfl, rfl⟩
                    rw [D11]
                    go_wp2_with fail
                    refine (rminor_any (s.extract 0 8) _ (by omega)).mono ?_
                    rintro e w1 ⟨rfl, rfl⟩
                    have HS := Kp.mk (sta_cases s)
                    have HN := Kp.mk (And.intro (sta_num hT).2.1 (sta_num hT).1)
                    have HFT := Kp.mk hT
                    clear hT
                    rcases HS.out with ⟨hT2, -⟩ | ⟨-, hm, hx⟩ | ⟨-, hm, hv, hx⟩ | ⟨-, hm, hv, hv2, h4, hx⟩ | ⟨-, hm, hv, hv2, h4, hx⟩
                    · have h9 := HFT.out
                      rw [hT2] at h9
                      cases h9
                    · have HX := Kp.mk hx
                      have q : (minE (s.extract 0 8) != 0) = true := by rw [bne_iff_ne]; exact hm
                      clear hx hm HS
                      go_wp2_with fail
                      exact bodyPost_ret (v := .tuple #[.agg #[.string ⟨#[]⟩, .string ⟨#[]⟩, .int .i64 0, .int .i64 0, .string ⟨#[]⟩, .slice none 0 0], .int .i64 (minE (s.extract 0 8))]) (by simp [results, Tryz.results30, go_sem]) rfl ⟨by rw [HX.out.1, HX.out.2.1, HX.out.2.2.1, HX.out.2.2.2], HA.out⟩
                    · have HX := Kp.mk hx
                      have HM := Kp.mk hm
                      clear hx hm HS
                      rw [HM.out]
                      go_wp2_with fail
                      refine (ref_number_10_any (s.extract 9 12) 999 _ (by unfold maxLen; omega) (by omega) (by omega)).mono ?_
                      rintro e w1 ⟨rfl, rfl⟩
                      rw [HN.out.1, HN.out.2]
                      by_cases hv1 : staV s < 100
                      · have r1 : (staV s : Int) < 100 := by omega
                        clear hv hv1
                        go_wp2_with fail
                        exact bodyPost_ret (v := .tuple #[.agg #[.string ⟨#[]⟩, .string ⟨#[]⟩, .int .i64 0, .int .i64 0, .string ⟨#[]⟩, .slice none 0 0], .int .i64 12]) (by simp [results, Tryz.results30, go_sem]) rfl ⟨by rw [HX.out.1, HX.out.2.1, HX.out.2.2.1, HX.out.2.2.2], HA.out⟩
                      · have r1 : ¬ (staV s : Int) < 100 := by omega
                        have r2 : (599 : Int) < (staV s : Int) := by omega
                        clear hv hv1
                        go_wp2_with fail
                        exact bodyPost_ret (v := .tuple #[.agg #[.string ⟨#[]⟩, .string ⟨#[]⟩, .int .i64 0, .int .i64 0, .string ⟨#[]⟩, .slice none 0 0], .int .i64 12]) (by simp [results, Tryz.results30, go_sem]) rfl ⟨by rw [HX.out.1, HX.out.2.1, HX.out.2.2.1, HX.out.2.2.2], HA.out⟩
                    · exact absurd h4 (by rw [HXE.out]; decide)
                    · have HX := Kp.mk hx
                      have HM := Kp.mk hm
                      have r1 : ¬ (staV s : Int) < 100 := by omega
                      have r2 : ¬ (599 : Int) < (staV s : Int) := by omega
                      clear hx hm h4 HS hv hv2
                      rw [HM.out]
                      go_wp2_with fail
                      refine (ref_number_10_any (s.extract 9 12) 999 _ (by unfold maxLen; omega) (by omega) (by omega)).mono ?_
                      rintro e w1 ⟨rfl, rfl⟩
                      rw [HN.out.1, HN.out.2]
                      go_wp2_with fail
                      refine (ref_value_any _ _ (by first | (unfold maxLen; omega) | decide)).mono ?_
                      rintro e w1 ⟨rfl, rfl⟩
                      rw [allB_empS]
                      go_wp2_with fail
                      exact bodyPost_ret (v := .tuple #[.agg #[.string ⟨#[]⟩, .string ⟨#[]⟩, .int .i64 (minN (s.extract 0 8)), .int .i64 (staV s), .string ⟨#[]⟩, .slice none 0 0], .int .i64 0]) (by simp [results, Tryz.results30, go_sem]) rfl ⟨by rw [HX.out.1, HX.out.2.1, HX.out.2.2.1, HX.out.2.2.2, HXE.out], (((Below.refl w.heap.size w).alloc (Nat.le_refl _) _).alloc (by simp) _)⟩
                · have HX := Kp.mk (hbad (by rw [hF, decide_eq_false h32, decide_eq_false hz]; rfl))
                  have t12 : (((s[12]'l12).toNat : Int) != 32) = true := by rw [bt_at s 12 l12, bne_iff_ne]; omega
                  clear hbad hF h8 h32
                  go_enter Tryz.func30, Tryz.ntmps30
                  go_wp2_with fail
                  refine (rformed_any (s.extract 0 8) _ (by omega)).mono ?_
                  rintro e w1 ⟨rfl, rfl⟩
                  rw [hf]
                  go_wp2_with fail
                  refine (rdigit_any _ _ (by omega)).mono ?_
                  rintro e w1 ⟨rfl, rfl⟩
                  rw [D9]
                  go_wp2_with fail
                  refine (rdigit_any _ _ (by omega)).mono ?_
                  rintro e w1 ⟨rfl, rfl⟩
                  rw [D10]
                  go_wp2_with fail
                  refine (rdigit_any _ _ (by omega)).mono ?_
                  rintro e w1 ⟨rfl, rfl⟩
                  rw [D11]
                  go_wp2_with fail
                  exact bodyPost_ret (v := .tuple #[.agg #[.string ⟨#[]⟩, .string ⟨#[]⟩, .int .i64 0, .int .i64 0, .string ⟨#[]⟩, .slice none 0 0], .int .i64 3]) (by simp [results, Tryz.results30, go_sem]) rfl ⟨by rw [HX.out.1, HX.out.2.1, HX.out.2.2.1, HX.out.2.2.2], HA.out⟩
      · have t8 : (((s[8]'l8).toNat : Int) != 32) = true := by rw [bt_at s 8 l8, bne_iff_ne]; omega
        have HX := Kp.mk (hbad (by rw [hF, hf, decide_eq_false h8]; rfl))
        clear hbad hF h8
        go_enter Tryz.func30, Tryz.ntmps30
        go_wp2_with fail
        refine (rformed_any (s.extract 0 8) _ (by omega)).mono ?_
        rintro e w1 ⟨rfl, rfl⟩
        rw [hf]
        go_wp2_with fail
        exact bodyPost_ret (v := .tuple #[.agg #[.string ⟨#[]⟩, .string ⟨#[]⟩, .int .i64 0, .int .i64 0, .string ⟨#[]⟩, .slice none 0 0], .int .i64 3]) (by simp [results, Tryz.results30, go_sem]) rfl ⟨by rw [HX.out.1, HX.out.2.1, HX.out.2.2.1, HX.out.2.2.2], HA.out⟩
  · have q12 : (s.size : Int) < 12 := by omega
    have HX := Kp.mk (hbad (by rw [hF, decide_eq_false h12]; rfl))
    clear hbad hF
    go_enter Tryz.func30, Tryz.ntmps30
    go_wp2_with fail
    exact bodyPost_ret (v := .tuple #[.agg #[.string ⟨#[]⟩, .string ⟨#[]⟩, .int .i64 0, .int .i64 0, .string ⟨#[]⟩, .slice none 0 0], .int .i64 3]) (by simp [results, Tryz.results30, go_sem]) rfl ⟨by rw [HX.out.1, HX.out.2.1, HX.out.2.2.1, HX.out.2.2.2], HA.out⟩
end Go.Proofs.YtcbfhlnnfnpkdaaGreatDoor
