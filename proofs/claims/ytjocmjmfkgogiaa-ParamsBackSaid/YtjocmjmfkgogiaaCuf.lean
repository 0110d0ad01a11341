/- Texts read from their beginning: quoted texts, as the document has them. -/
import Derived.Test.YtjocmjmfkgogiaaCue
namespace Go.Proofs.Ytjocmjmfkgogiaa
open Go.RowKit
set_option linter.unusedVariables false
set_option linter.unusedSimpArgs false

theorem app_list (a b : ByteArray) : (a ++ b).data.toList = a.data.toList ++ b.data.toList := by simp
theorem app_one (o x : ByteArray) (k : Nat) (h : k < x.size) : (o ++ x.extract k (k + 1)).data.toList = o.data.toList ++ [x[k]] := by rw [app_list, one_size x k h]

set_option maxRecDepth 100000 in
set_option maxHeartbeats 4000000 in
theorem ref_quoted_any (x : ByteArray) (w : World) (hx140 : x.size ≤ 140737488351232) :
    Calls Try.prog 21 #[.string x] w fun e w' => e = .returned (.tuple #[.string (quotedS x), .int .i64 (quotedN x)]) ∧ w = w' := by
  have hnone : quotedL x.data.toList = none → Ending.returned (.tuple #[.string ⟨#[]⟩, .int .i64 0]) = .returned (.tuple #[.string (quotedS x), .int .i64 (quotedN x)]) := by
    intro h
    have hq := quoted_none h
    rw [hq.1, hq.2]; rfl
  have HNE := Lib.hid hnone
  clear hnone
  by_cases h0 : x.size = 0
  · have HNO := Lib.hid (HNE.out (quotedL_emp h0))
    have e0 : ((x.size : Int) == 0) = true := by rw [beq_iff_eq]; omega
    clear h0
    go_enter Try.func21, Try.ntmps21
    go_wp2_with fail
    go_ret2
    exact ⟨HNO.out, rfl⟩
  · have hp : 0 < x.size := by omega
    have e0 : ((x.size : Int) == 0) = false := by rw [beq_eq_false_iff_ne]; omega
    clear h0
    by_cases h34 : bt x 0 = 34
    · have HQ := Lib.hid (quotedL_yes hp h34)
      have hx2 : ((x[0].toNat : Int) != 34) = false := by rw [bt_at, h34]; rfl
      clear h34
      go_enter Try.func21, Try.ntmps21
      go_wp2_with fail
      clear hx2
      go_loop [4, 5] (fun v i => ∃ (k : Nat) (o : ByteArray), 1 ≤ k ∧ k ≤ x.size ∧ i = .int .i64 k ∧ v = .string o ∧ o.size ≤ k ∧ quotedL x.data.toList = qread (x.data.toList.drop k) o.data.toList k) (fun _ i => x.size - (intOf i).toNat)
      case atStart => exact ⟨1, ⟨#[]⟩, by omega, by omega, rfl, rfl, by decide, HQ.out⟩
      case round =>
        obtain ⟨k, o, hk1, hk, rfl, rfl, hos, hqr⟩ := hrel
        have HQR := Lib.hid hqr
        clear hqr
        by_cases hlt : k < x.size
        · have hbt := bt_at x k hlt
          have HDR := Lib.hid (drop_at x k hlt)
          by_cases c34 : bt x k = 34
          · have e1 : ((x[k].toNat : Int) == 34) = true := by rw [hbt, c34]; rfl
            have HR := Lib.hid (quoted_some (x := x) (l := o.data.toList) (m := k + 1) (by rw [HQR.out, HDR.out]; exact qread_q (by rw [hbt]; exact c34)))
            clear hbt c34
            go_wp2_with fail
            go_ret2
            refine ⟨?_, rfl⟩
            rw [HR.out.1, HR.out.2, ← ba_eq o _ rfl]
            simp
          · by_cases c92 : bt x k = 92
            · have e1 : ((x[k].toNat : Int) == 34) = false := by rw [hbt, beq_eq_false_iff_ne]; omega
              have e2 : ((x[k].toNat : Int) == 92) = true := by rw [hbt, c92]; rfl
              have HC92 := Lib.hid (show (x[k]).toNat = 92 by rw [hbt]; exact c92)
              clear hbt c34 c92
              by_cases hlt2 : k + 1 < x.size
              · have HDR2 := Lib.hid (drop_at x (k + 1) hlt2)
                have HBT2 := Lib.hid (bt_at x (k + 1) hlt2)
                have HV := Lib.hid (allB_one x (k + 1) hlt2)
                have HAP := Lib.hid (app_one o x (k + 1) hlt2)
                go_wp2_with fail
                refine (ref_value_any _ _ (by have := one_size x (k + 1) hlt2; unfold maxLen; rw [ba_len this]; simp)).mono ?_
                rintro e w2 ⟨rfl, rfl⟩
                rw [HV.out]
                cases hv : valueB (bt x (k + 1))
                · have HNO := Lib.hid (HNE.out (by rw [HQR.out, HDR.out, HDR2.out]; exact qread_esc_no HC92.out (by rw [HBT2.out]; exact hv)))
                  clear hv
                  go_wp2_with fail
                  go_ret2
                  exact ⟨HNO.out, rfl⟩
                · have HST := Lib.hid (show quotedL x.data.toList = qread (x.data.toList.drop (k + 2)) (o.data.toList ++ [x[k + 1]]) (k + 2) by rw [HQR.out, HDR.out, HDR2.out]; exact qread_esc HC92.out (by rw [HBT2.out]; exact hv))
                  clear hv
                  go_wp2_with fail
                  go_round
                  case rel => exact ⟨k + 2, _, by omega, by omega, by go_num, rfl, by rw [ba_len HAP.out]; simp; omega, by rw [HAP.out]; exact HST.out⟩
                  case measure => simp [intOf]; omega
              · have HNO := Lib.hid (HNE.out (by rw [HQR.out, HDR.out, List.drop_of_length_le (by rw [← ba_size]; omega)]; exact qread_esc_end HC92.out))
                go_wp2_with fail
                go_ret2
                exact ⟨HNO.out, rfl⟩
            · have e1 : ((x[k].toNat : Int) == 34) = false := by rw [hbt, beq_eq_false_iff_ne]; omega
              have e2 : ((x[k].toNat : Int) == 92) = false := by rw [hbt, beq_eq_false_iff_ne]; omega
              have HCA := Lib.hid (show (x[k]).toNat ≠ 34 by rw [hbt]; exact c34)
              have HCB := Lib.hid (show (x[k]).toNat ≠ 92 by rw [hbt]; exact c92)
              have HBT2 := Lib.hid hbt
              have HV := Lib.hid (allB_one x k hlt)
              have HAP := Lib.hid (app_one o x k hlt)
              clear hbt c34 c92
              go_wp2_with fail
              refine (ref_value_any _ _ (by have := one_size x k hlt; unfold maxLen; rw [ba_len this]; simp)).mono ?_
              rintro e w2 ⟨rfl, rfl⟩
              rw [HV.out]
              cases hv : valueB (bt x k)
              · have HNO := Lib.hid (HNE.out (by rw [HQR.out, HDR.out]; exact qread_plain_no HCA.out HCB.out (by rw [HBT2.out]; exact hv)))
                clear hv
                go_wp2_with fail
                go_ret2
                exact ⟨HNO.out, rfl⟩
              · have HST := Lib.hid (show quotedL x.data.toList = qread (x.data.toList.drop (k + 1)) (o.data.toList ++ [x[k]]) (k + 1) by rw [HQR.out, HDR.out]; exact qread_plain HCA.out HCB.out (by rw [HBT2.out]; exact hv))
                clear hv
                go_wp2_with fail
                go_round
                case rel => exact ⟨k + 1, _, by omega, by omega, by go_num, rfl, by rw [ba_len HAP.out]; simp; omega, by rw [HAP.out]; exact HST.out⟩
                case measure => simp [intOf]; omega
        · have HNO := Lib.hid (HNE.out (by rw [HQR.out, List.drop_of_length_le (by rw [← ba_size]; omega)]; rfl))
          go_wp2_with fail
          go_ret2
          exact ⟨HNO.out, rfl⟩
    · have HNO := Lib.hid (HNE.out (quotedL_no hp h34))
      have hx2 : ((x[0].toNat : Int) != 34) = true := by rw [bt_at, bne_iff_ne]; omega
      clear h34
      go_enter Try.func21, Try.ntmps21
      go_wp2_with fail
      go_ret2
      exact ⟨HNO.out, rfl⟩

theorem escC_two {c : UInt8} (h : c.toNat = 34 ∨ c.toNat = 92) : escC c = [92, c] := by unfold escC; rw [if_pos h]
theorem escC_one {c : UInt8} (h : ¬ (c.toNat = 34 ∨ c.toNat = 92)) : escC c = [c] := by unfold escC; rw [if_neg h]
theorem quoteS_tok {s : ByteArray} (h : tokenB s = true) : quoteS s = s ∧ quoteOk s = true := by unfold quoteS quoteOk; rw [h]; simp
theorem quoteS_no {s : ByteArray} (h : tokenB s = false) (hv : allB valueB s = false) : quoteS s = ⟨#[]⟩ ∧ quoteOk s = false := by unfold quoteS quoteOk; rw [h, hv]; simp
theorem quoteS_yes {s : ByteArray} (h : tokenB s = false) (hv : allB valueB s = true) : quoteS s = ⟨(34 :: escL s.data.toList ++ [34]).toArray⟩ ∧ quoteOk s = true := by unfold quoteS quoteOk; rw [h, hv]; simp

set_option maxRecDepth 100000 in
set_option maxHeartbeats 4000000 in
theorem ref_quote_any (s : ByteArray) (w : World) (hs : s.size ≤ 70368744175616) :
    Calls Try.prog 65 #[.string s] w fun e w' => e = .returned (.tuple #[.string (quoteS s), .bool (quoteOk s)]) ∧ w = w' := by
  cases ht : tokenB s
  · cases hv : allB valueB s
    · have HT := Lib.hid ht
      have HV := Lib.hid hv
      have HQ := Lib.hid (quoteS_no ht hv)
      clear ht hv
      go_enter Try.func65, Try.ntmps65
      go_wp2_with fail
      refine (ref_token_any _ _ (by unfold maxLen; omega)).mono ?_
      rintro e w' ⟨rfl, rfl⟩
      rw [HT.out]
      go_wp2_with fail
      refine (ref_value_any _ _ (by unfold maxLen; omega)).mono ?_
      rintro e w' ⟨rfl, rfl⟩
      rw [HV.out]
      go_wp2_with fail
      go_ret2
      exact ⟨by rw [HQ.out.1, HQ.out.2]; rfl, rfl⟩
    · have HT := Lib.hid ht
      have HV := Lib.hid hv
      have HQ := Lib.hid (quoteS_yes ht hv)
      clear ht hv
      go_enter Try.func65, Try.ntmps65
      go_wp2_with fail
      refine (ref_token_any _ _ (by unfold maxLen; omega)).mono ?_
      rintro e w' ⟨rfl, rfl⟩
      rw [HT.out]
      go_wp2_with fail
      refine (ref_value_any _ _ (by unfold maxLen; omega)).mono ?_
      rintro e w' ⟨rfl, rfl⟩
      rw [HV.out]
      go_wp2_with fail
      go_loop [4, 5] (fun v i => ∃ (k : Nat) (o : ByteArray), k ≤ s.size ∧ i = .int .i64 k ∧ v = .string o ∧ o.size ≤ 2 * k + 1 ∧ o.data.toList = 34 :: escL (s.data.toList.take k)) (fun _ i => s.size - (intOf i).toNat)
      case atStart => exact ⟨0, ⟨#[34]⟩, by omega, rfl, rfl, by decide, rfl⟩
      case round =>
        obtain ⟨k, o, hk, rfl, rfl, hos, hol⟩ := hrel
        have HOL := Lib.hid hol
        clear hol
        by_cases hlt : k < s.size
        · have hbt := bt_at s k hlt
          have hts := take_snoc s k hlt
          have HTS := Lib.hid hts
          have HAP := Lib.hid (app_one o s k hlt)
          have HAP2 := Lib.hid (app_one (o ++ ⟨#[92]⟩) s k hlt)
          clear hts
          have hway : bt s k = 34 ∨ (bt s k ≠ 34 ∧ bt s k = 92) ∨ (bt s k ≠ 34 ∧ bt s k ≠ 92) := by omega
          have fin2 : bt s k = 34 ∨ bt s k = 92 → (o ++ ⟨#[92]⟩ ++ s.extract k (k + 1)).data.toList = 34 :: escL (s.data.toList.take (k + 1)) := by
            intro h
            rw [HAP2.out, app_list, HOL.out, HTS.out, escL_snoc, escC_two (by rw [hbt]; exact h)]; simp
          have fin1 : bt s k ≠ 34 ∧ bt s k ≠ 92 → (o ++ s.extract k (k + 1)).data.toList = 34 :: escL (s.data.toList.take (k + 1)) := by
            intro h
            rw [HAP.out, HOL.out, HTS.out, escL_snoc, escC_one (by rw [hbt]; omega)]; simp
          rcases hway with hw | ⟨hw, hw2⟩ | ⟨hw, hw2⟩
          · have e1 : ((s[k].toNat : Int) == 34) = true := by rw [hbt, hw]; rfl
            have HF := Lib.hid (fin2 (.inl hw))
            clear hbt hw fin1 fin2
            go_wp2_with fail
            go_round
            case rel => exact ⟨k + 1, _, by omega, by go_num, rfl, by have h92 : (⟨#[92]⟩ : ByteArray).size = 1 := rfl; rw [ba_len HAP2.out, List.length_append, ← ba_size, ByteArray.size_append, h92]; simp; omega, HF.out⟩
            case measure => simp [intOf]; omega
          · have e1 : ((s[k].toNat : Int) == 34) = false := by rw [hbt, beq_eq_false_iff_ne]; omega
            have e2 : ((s[k].toNat : Int) == 92) = true := by rw [hbt, hw2]; rfl
            have HF := Lib.hid (fin2 (.inr hw2))
            clear hbt hw hw2 fin1 fin2
            go_wp2_with fail
            go_round
            case rel => exact ⟨k + 1, _, by omega, by go_num, rfl, by have h92 : (⟨#[92]⟩ : ByteArray).size = 1 := rfl; rw [ba_len HAP2.out, List.length_append, ← ba_size, ByteArray.size_append, h92]; simp; omega, HF.out⟩
            case measure => simp [intOf]; omega
          · have e1 : ((s[k].toNat : Int) == 34) = false := by rw [hbt, beq_eq_false_iff_ne]; omega
            have e2 : ((s[k].toNat : Int) == 92) = false := by rw [hbt, beq_eq_false_iff_ne]; omega
            have HF := Lib.hid (fin1 ⟨hw, hw2⟩)
            clear hbt hw hw2 fin1 fin2
            go_wp2_with fail
            go_round
            case rel => exact ⟨k + 1, _, by omega, by go_num, rfl, by rw [ba_len HAP.out, List.length_append, ← ba_size]; simp; omega, HF.out⟩
            case measure => simp [intOf]; omega
        · have hta : s.data.toList.take k = s.data.toList := List.take_of_length_le (by rw [← ba_size]; omega)
          have HTA := Lib.hid hta
          clear hta
          go_wp2_with fail
          go_ret2
          refine ⟨?_, rfl⟩
          rw [HQ.out.1, HQ.out.2]
          have he : (o ++ ⟨#[34]⟩ : ByteArray) = ⟨(34 :: escL s.data.toList ++ [34]).toArray⟩ := ba_eq _ _ (by rw [app_list, HOL.out, HTA.out])
          rw [← he]
          rfl
  · have HT := Lib.hid ht
    have HQ := Lib.hid (quoteS_tok ht)
    clear ht
    go_enter Try.func65, Try.ntmps65
    go_wp2_with fail
    refine (ref_token_any _ _ (by unfold maxLen; omega)).mono ?_
    rintro e w' ⟨rfl, rfl⟩
    rw [HT.out]
    go_wp2_with fail
    go_ret2
    exact ⟨by rw [HQ.out.1, HQ.out.2]; rfl, rfl⟩
end Go.Proofs.Ytjocmjmfkgogiaa
