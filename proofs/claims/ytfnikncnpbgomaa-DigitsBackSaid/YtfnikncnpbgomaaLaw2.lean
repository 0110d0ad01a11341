/- Layer 2: the walks of the two laws. -/
import Derived.Test.YtfnikncnpbgomaaTxt
import Derived.OpenShut
import Derived.Deep.QuietTactic
import Derived.BigQuiet
namespace Go.Proofs.Ytfnikncnpbgomaa
open Go.RowKit
set_option linter.unusedVariables false
set_option linter.unusedSimpArgs false

theorem extract_le (s : ByteArray) (n : Nat) : (s.extract 0 n).size ≤ n := by
  rw [ba_size, Lib.extract_data]; simp; omega

set_option maxHeartbeats 800000 in
theorem read_walk (s : ByteArray) (most : Int) (w : World) (ws : s.size ≤ maxLen) (wm : (Lit.int .i64 most).wf = true) :
    Calls Try.prog 6 #[.string s, .int .i64 most] w fun e w' => e = .returned (.bool true) ∧ Below w.heap.size w w' := by
  obtain ⟨hm0, hm1⟩ := bounds_i64 wm
  unfold maxLen at ws
  clear wm
  have hcut : s.size ≤ 300 ∨ (300 < s.size ∧ (s.extract 0 300).size ≤ 300) := by
    by_cases h : s.size ≤ 300
    · exact .inl h
    · exact .inr ⟨by omega, extract_le s 300⟩
  rcases hcut with hn | ⟨hn, ht⟩
  all_goals
    first
      | have HS := Lib.hid ht
      | have HS := Lib.hid hn
    try clear ht
    go_enter Try.func6, Try.ntmps6
    go_wp2_with fail
    refine (dec_any _ _ _ (by have := HS.out; unfold maxLen; omega) hm0 hm1).mono ?_
    rintro e w1 ⟨rfl, hb1⟩
    go_wp2_with fail
    refine (ref_number_10_any _ _ _ (by have := HS.out; unfold maxLen; omega) hm0 hm1).mono ?_
    rintro e w' ⟨rfl, rfl⟩
    go_wp2_with fail
    refine (hex_any _ _ _ (by have := HS.out; unfold maxLen; omega) hm0 hm1).mono ?_
    rintro e w2 ⟨rfl, hb2⟩
    go_wp2_with fail
    refine (ref_number_16_any _ _ _ (by have := HS.out; unfold maxLen; omega) hm0 hm1).mono ?_
    rintro e w' ⟨rfl, rfl⟩
    go_wp2_with fail
    refine (lives2_any _).mono ?_
    rintro e w3 ⟨rfl, hb3⟩
    go_wp2_with fail
    go_ret
    exact ⟨rfl, below_thn (below_thn hb1 hb2) hb3⟩

/-- A number comes back from its digits. -/
theorem num_back (b wide n : Nat) (most : Int) (hb : 10 ≤ b) (hb2 : b ≤ 16) (hw : 1 ≤ wide) (hn : n < 18446744073709551616) :
    ((n : Int) ≤ most → numV b (ofL (wdig b wide n)) most = n ∧ numE b (ofL (wdig b wide n)) most = 0) ∧
    (most < n → numV b (ofL (wdig b wide n)) most = 0 ∧ numE b (ofL (wdig b wide n)) most = 5) := by
  have hd : (ofL (wdig b wide n)).data.toList = wdig b wide n := by simp [ofL]
  have h0 : (ofL (wdig b wide n)).size ≠ 0 := by
    rw [ba_size, hd]
    intro h
    exact wdig_ne b wide n hw (List.length_eq_zero_iff.1 h)
  have hok : ∀ j, j < (ofL (wdig b wide n)).size → digV (bt (ofL (wdig b wide n)) j) < b := by
    intro j hj
    rw [← bt_list _ j hj]
    have hmem : ∀ c ∈ (ofL (wdig b wide n)).data.toList, digV c.toNat < b := fun c hc => wdig_ok b wide n hb hb2 c (by rw [← hd]; exact hc)
    exact hmem _ (List.getElem_mem _)
  have hv : valN b (ofL (wdig b wide n)).data.toList = n := by rw [hd]; exact wdig_val b wide n hb hb2 hn
  refine ⟨fun h => ?_, fun h => ?_⟩
  · obtain ⟨e1, e2⟩ := num_fits h0 hok (most := most) (by rw [hv]; exact h)
    exact ⟨by rw [e2, hv], e1⟩
  · obtain ⟨e1, e2⟩ := num_great h0 hok (most := most) (by rw [hv]; exact h)
    exact ⟨e2, e1⟩

set_option maxHeartbeats 800000 in
theorem back_walk (n most wide : Int) (w : World) (wn : (Lit.int .i64 n).wf = true) (wm : (Lit.int .i64 most).wf = true) (ww : (Lit.int .i64 wide).wf = true) :
    Calls Try.prog 7 #[.int .i64 n, .int .i64 most, .int .i64 wide] w fun e w' => e = .returned (.bool true) ∧ Below w.heap.size w w' := by
  obtain ⟨hn0, hn1⟩ := bounds_i64 wn
  obtain ⟨hm0, hm1⟩ := bounds_i64 wm
  obtain ⟨hw0, hw1⟩ := bounds_i64 ww
  clear wn wm ww
  by_cases hn : n < 0
  · have ht : ofL (hexL n) = ⟨#[]⟩ := by unfold hexL; rw [if_pos hn]; rfl
    have HT := Lib.hid ht
    clear ht
    go_enter Try.func7, Try.ntmps7
    go_wp2_with fail
    refine (hextext_any _ _ hn0 hn1).mono ?_
    rintro e w1 ⟨rfl, hb1⟩
    rw [HT.out]
    go_wp2_with fail
    refine (lives2_any _).mono ?_
    rintro e w2 ⟨rfl, hb2⟩
    go_wp2_with fail
    go_ret
    exact ⟨rfl, below_thn hb1 hb2⟩
  · have hn2 : 0 ≤ n := by omega
    have e1 : textL n = wdig 10 1 n.toNat := by unfold textL; rw [if_neg hn]
    have e2 : hexL n = wdig 16 1 n.toNat := by unfold hexL; rw [if_neg hn]
    have e3 : padL n wide = wdig 10 (max 1 (min wide 20)).toNat n.toNat := by unfold padL; rw [if_neg hn]
    have b1 := num_back 10 1 n.toNat most (by omega) (by omega) (by omega) (by omega)
    have b2 := num_back 16 1 n.toNat most (by omega) (by omega) (by omega) (by omega)
    have b3 := num_back 10 (max 1 (min wide 20)).toNat n.toNat most (by omega) (by omega) (by omega) (by omega)
    rw [← e1] at b1
    rw [← e2] at b2
    rw [← e3] at b3
    rw [Int.toNat_of_nonneg hn2] at b1 b2 b3
    have s1 : (ofL (textL n)).size ≤ maxLen := by rw [ofL_size, e1]; have := wdig_len 10 1 n.toNat; unfold maxLen; omega
    have s2 : (ofL (hexL n)).size ≤ maxLen := by rw [ofL_size, e2]; have := wdig_len 16 1 n.toNat; unfold maxLen; omega
    have s3 : (ofL (padL n wide)).size ≤ maxLen := by rw [ofL_size, e3]; have := wdig_len 10 (max 1 (min wide 20)).toNat n.toNat; unfold maxLen; omega
    clear e1 e2 e3
    have S1 := Lib.hid s1
    have S2 := Lib.hid s2
    have S3 := Lib.hid s3
    have B1 := Lib.hid b1
    have B2 := Lib.hid b2
    have B3 := Lib.hid b3
    clear s1 s2 s3 b1 b2 b3 hn
    by_cases hmn : most < n
    · have B1 := Lib.hid (B1.out.2 hmn)
      have B2 := Lib.hid (B2.out.2 hmn)
      have B3 := Lib.hid (B3.out.2 hmn)
      go_enter Try.func7, Try.ntmps7
      go_wp2_with fail
      refine (text_any _ _ hn0 hn1).mono ?_
      rintro e w1 ⟨rfl, hb1⟩
      go_wp2_with fail
      refine (dec_any _ _ _ S1.out hm0 hm1).mono ?_
      rintro e w2 ⟨rfl, hb2⟩
      rw [B1.out.1, B1.out.2]
      go_wp2_with fail
      refine (hextext_any _ _ hn0 hn1).mono ?_
      rintro e w3 ⟨rfl, hb3⟩
      go_wp2_with fail
      refine (hex_any _ _ _ S2.out hm0 hm1).mono ?_
      rintro e w4 ⟨rfl, hb4⟩
      rw [B2.out.1, B2.out.2]
      go_wp2_with fail
      refine (pad_any _ _ _ hn0 hn1 hw0 hw1).mono ?_
      rintro e w5 ⟨rfl, hb5⟩
      go_wp2_with fail
      refine (dec_any _ _ _ S3.out hm0 hm1).mono ?_
      rintro e w6 ⟨rfl, hb6⟩
      rw [B3.out.1, B3.out.2]
      go_wp2_with fail
      refine (lives2_any _).mono ?_
      rintro e w7 ⟨rfl, hb7⟩
      go_wp2_with fail
      go_ret
      exact ⟨rfl, below_thn (below_thn (below_thn (below_thn (below_thn (below_thn hb1 hb2) hb3) hb4) hb5) hb6) hb7⟩
    · have hmn' : n ≤ most := by omega
      have B1 := Lib.hid (B1.out.1 hmn')
      have B2 := Lib.hid (B2.out.1 hmn')
      have B3 := Lib.hid (B3.out.1 hmn')
      clear hmn
      go_enter Try.func7, Try.ntmps7
      go_wp2_with fail
      refine (text_any _ _ hn0 hn1).mono ?_
      rintro e w1 ⟨rfl, hb1⟩
      go_wp2_with fail
      refine (dec_any _ _ _ S1.out hm0 hm1).mono ?_
      rintro e w2 ⟨rfl, hb2⟩
      rw [B1.out.1, B1.out.2]
      go_wp2_with fail
      refine (hextext_any _ _ hn0 hn1).mono ?_
      rintro e w3 ⟨rfl, hb3⟩
      go_wp2_with fail
      refine (hex_any _ _ _ S2.out hm0 hm1).mono ?_
      rintro e w4 ⟨rfl, hb4⟩
      rw [B2.out.1, B2.out.2]
      go_wp2_with fail
      refine (pad_any _ _ _ hn0 hn1 hw0 hw1).mono ?_
      rintro e w5 ⟨rfl, hb5⟩
      go_wp2_with fail
      refine (dec_any _ _ _ S3.out hm0 hm1).mono ?_
      rintro e w6 ⟨rfl, hb6⟩
      rw [B3.out.1, B3.out.2]
      go_wp2_with fail
      refine (lives2_any _).mono ?_
      rintro e w7 ⟨rfl, hb7⟩
      go_wp2_with fail
      go_ret
      exact ⟨rfl, below_thn (below_thn (below_thn (below_thn (below_thn (below_thn hb1 hb2) hb3) hb4) hb5) hb6) hb7⟩
end Go.Proofs.Ytfnikncnpbgomaa
