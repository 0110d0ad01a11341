/- Targets (layer 12): Parse, the document's. -/
import Derived.Test.YtahehpgnemanmaaDoorTge
import Derived.RegionTactic
import Derived.ChangeAlike
import Derived.BigRegion
namespace Go.Proofs.YtahehpgnemanmaaDoor
open Go.RowKit
set_option linter.unusedVariables false
set_option linter.unusedSimpArgs false

def tgBk (s : ByteArray) (k : Nat) : Bool := !visibleB s || (s.data.toList.take k).any (fun c => c.toNat == 35)
theorem tgBk_zero (s : ByteArray) : tgBk s 0 = !visibleB s := by simp [tgBk]
theorem tgBk_succ (s : ByteArray) (k : Nat) (h : k < s.size) : tgBk s (k + 1) = (tgBk s k || ((bt s k : Int) == 35)) := by
  unfold tgBk
  rw [take_snoc s k h, List.any_append, ← Bool.or_assoc]
  congr 1
  rw [List.any_cons, List.any_nil, Bool.or_false, bt_at s k h, Bool.eq_iff_iff, beq_iff_eq, beq_iff_eq]
  omega
theorem tgBk_all (s : ByteArray) : tgBk s s.size = tgBad s := by unfold tgBk tgBad; rw [List.take_of_length_le (by rw [← ba_size]; omega)]
theorem tg_named {s : ByteArray} {k : Nat} (hk : HsNm s k) (h0 : 0 < s.size) (he : hsE s = 0) : ((k : Int) == (s.size : Int)) = !hsHas s := by
  obtain ⟨_, hn, hd⟩ := hsE_named he
  rcases host_eq hk h0 with ⟨a, b, c⟩ | ⟨a, b, c1, c2, c3, d, f⟩ | ⟨a, b, c, d⟩
  · rw [a, c]; simp
  · rw [a]; exact beq_eq_false_iff_ne.2 (by omega)
  · rcases a with ⟨a1, a2⟩ | a
    · have := (hd a1).1; rw [a2] at this; cases this
    · rw [a] at hn; cases hn
theorem tgP_iff (c : UInt8) : tgP c = true ↔ c.toNat ≠ 47 ∧ c.toNat ≠ 63 := by unfold tgP; rw [Bool.and_eq_true, decide_eq_true_eq, decide_eq_true_eq]
/-- Where the authority ends. -/
theorem tgCut_of {s : ByteArray} {k : Nat} (h7 : 7 ≤ k) (hk : k ≤ s.size) (h1 : ∀ j, 7 ≤ j → j < k → bt s j ≠ 47 ∧ bt s j ≠ 63) (h2 : k = s.size ∨ (k < s.size ∧ (bt s k = 47 ∨ bt s k = 63))) : tgCut s = k := by
  have hl : (s.data.toList.drop 7).length = s.size - 7 := by rw [List.length_drop, ← ba_size]
  have hg : ∀ (j : Nat) (h : j < (s.data.toList.drop 7).length), ((s.data.toList.drop 7)[j]).toNat = bt s (7 + j) := fun j h => by
    rw [List.getElem_drop]; exact bt_list s (7 + j) (by omega)
  unfold tgCut
  rw [tgN_of (k := k - 7) (by omega) (fun j h hj => by rw [tgP_iff, hg j h]; exact h1 (7 + j) (by omega) (by omega)) (by
    rcases h2 with h2 | ⟨h2, h3⟩
    · left; omega
    · right
      refine ⟨by omega, ?_⟩
      cases hp : tgP ((s.data.toList.drop 7)[k - 7]'(by omega))
      · rfl
      · have := (tgP_iff _).1 hp
        rw [hg, show 7 + (k - 7) = k by omega] at this
        omega)]
  omega
theorem tg_xx (s : ByteArray) : s.extract s.size s.size = ⟨#[]⟩ := hs_emp (by rw [ByteArray.size_extract]; omega)
theorem tgSch_z : tgSch.toList = [104, 116, 116, 112, 58, 47, 47] := by decide +kernel
theorem tgres_new (w : World) : Bl (w.alloc (.cells #[.int .i64 0, .string ⟨#[]⟩, .string ⟨#[]⟩] 23)) w.heap.size 23 #[.int .i64 0, .string ⟨#[]⟩, .string ⟨#[]⟩] := Bl.new w _ _
set_option maxRecDepth 100000 in
set_option maxHeartbeats 4000000 in
theorem rtg_bad (m s : ByteArray) (w : World) (hs : s.size ≤ 1000000) (h0 : 0 < s.size) (hb : tgBad s = true) : Calls Tryd.prog 9 #[.string m, .string s] w (RetTg (tgR m s) w) := by
  obtain ⟨n1, n2⟩ := hs_nemp h0
  have HVI := Kp.mk (fun w => ref_visible_any s w (by unfold maxLen; omega))
  have HZ := Kp.mk (tgBk_zero s)
  have HT := Kp.mk (tgBk_all s)
  have R0 := Kp.mk (tgres_new w)
  have B0 := Kp.mk (tgb1 w (.cells #[.int .i64 0, .string ⟨#[]⟩, .string ⟨#[]⟩] 23))
  have HR := Kp.mk (show tgR m s = tgNo 11 by unfold tgR; rw [if_neg (by omega), if_pos hb])
  have HBAD := Kp.mk hb
  clear hb
  go_enter Tryd.func9, Tryd.ntmps9
  go_wp2_with fail
  refine (HVI.out _).mono ?_
  rintro e w1 ⟨rfl, rfl⟩
  go_wp2_with fail
  go_loop [6, 7] (fun b i => ∃ k : Nat, k ≤ s.size ∧ i = .int .i64 k ∧ b = .bool (tgBk s k)) (fun _ i => s.size - (intOf i).toNat)
  case atStart => exact ⟨0, by omega, rfl, by rw [HZ.out]⟩
  case round =>
    obtain ⟨k, hk, rfl, rfl⟩ := hrel
    by_cases hlt : k < s.size
    · have hx := bt_at s k hlt
      have HN := Kp.mk (tgBk_succ s k hlt)
      cases hb : tgBk s k
      · rw [hb] at HN
        have HN2 := Kp.mk (show tgBk s (k + 1) = ((bt s k : Int) == 35) from HN.out)
        clear hb HN
        go_wp2_with fail
        go_round
        case rel => exact ⟨k + 1, by omega, by go_num, by rw [HN2.out]⟩
        case measure => simp [intOf]; omega
      · rw [hb] at HN
        have HN2 := Kp.mk (show tgBk s (k + 1) = true from HN.out)
        clear hb HN hx
        go_wp2_with fail
        go_round
        case rel => exact ⟨k + 1, by omega, by go_num, by rw [HN2.out]⟩
        case measure => simp [intOf]; omega
    · obtain rfl : k = s.size := by omega
      clear hk
      rw [HT.out]
      rw [HBAD.out]
      go_wp2_with fail
      exact bodyPost_ret (v := .tuple #[.agg #[.int .i64 0, .string ⟨#[]⟩, .string ⟨#[]⟩], .int .i64 11]) (by simp [results, Tryd.results9, go_sem]) rfl ⟨by rw [HR.out]; rfl, B0.out⟩
set_option maxRecDepth 100000 in
set_option maxHeartbeats 4000000 in
theorem rtg_con (m s : ByteArray) (w : World) (hs : s.size ≤ 1000000) (h0 : 0 < s.size) (hb : tgBad s = false) (hm : m = tgCon) (hk : hsE s = 0 ∧ hsHas s = true) : Calls Tryd.prog 9 #[.string m, .string s] w (RetTg (tgR m s) w) := by
  obtain ⟨n1, n2⟩ := hs_nemp h0
  have HVI := Kp.mk (fun w => ref_visible_any s w (by unfold maxLen; omega))
  have HZ := Kp.mk (tgBk_zero s)
  have HT := Kp.mk (tgBk_all s)
  have R0 := Kp.mk (tgres_new w)
  have B0 := Kp.mk (tgb1 w (.cells #[.int .i64 0, .string ⟨#[]⟩, .string ⟨#[]⟩] 23))
  have hk1 := hk
  have HR := Kp.mk (show tgR m s = ⟨0, 3, s, ⟨#[]⟩⟩ by rw [hm]; exact tg_con hb hk)
  have HBAD := Kp.mk hb
  have hm1 : (m.toList == [67, 79, 78, 78, 69, 67, 84]) = true := by rw [hm, tgCon_z]; rfl
  have HNA := Kp.mk (fun w => rhs_name_any s w hs)
  have HPA := Kp.mk (fun w => rhs_parse_any s w hs)
  have HD := Kp.mk (show hsRet s = .tuple #[.string (hsN s), .int .i64 (hsP s), .int .i64 (hsE s)] from rfl)
  have HK := Kp.mk (fun k hk => tg_named (k := k) hk h0 hk1.1)
  rw [hk1.2] at HK
  have hq : (hsE s != 0) = false := by rw [hk1.1]; rfl
  generalize hsN s = N at *
  generalize hsP s = Q at *
  generalize hsE s = E at *
  clear hb hm hk hk1
  go_enter Tryd.func9, Tryd.ntmps9
  go_wp2_with fail
  refine (HVI.out _).mono ?_
  rintro e w1 ⟨rfl, rfl⟩
  go_wp2_with fail
  go_loop [6, 7] (fun b i => ∃ k : Nat, k ≤ s.size ∧ i = .int .i64 k ∧ b = .bool (tgBk s k)) (fun _ i => s.size - (intOf i).toNat)
  case atStart => exact ⟨0, by omega, rfl, by rw [HZ.out]⟩
  case round =>
    obtain ⟨k, hk, rfl, rfl⟩ := hrel
    by_cases hlt : k < s.size
    · have hx := bt_at s k hlt
      have HN := Kp.mk (tgBk_succ s k hlt)
      cases hb : tgBk s k
      · rw [hb] at HN
        have HN2 := Kp.mk (show tgBk s (k + 1) = ((bt s k : Int) == 35) from HN.out)
        clear hb HN
        go_wp2_with fail
        go_round
        case rel => exact ⟨k + 1, by omega, by go_num, by rw [HN2.out]⟩
        case measure => simp [intOf]; omega
      · rw [hb] at HN
        have HN2 := Kp.mk (show tgBk s (k + 1) = true from HN.out)
        clear hb HN hx
        go_wp2_with fail
        go_round
        case rel => exact ⟨k + 1, by omega, by go_num, by rw [HN2.out]⟩
        case measure => simp [intOf]; omega
    · obtain rfl : k = s.size := by omega
      clear hk
      rw [HT.out]
      rw [HBAD.out]
      go_wp2_with fail
      refine (HNA.out _).mono ?_
      rintro e w2 ⟨k, rfl, hk, rfl⟩
      have hq2 := HK.out k hk
      simp only [Bool.not_true, Bool.not_false] at hq2
      clear hk
      go_wp2_with fail
      refine (HPA.out _).mono ?_
      rintro e w3 ⟨rfl, hb⟩
      rw [HD.out]
      have R1 := Kp.mk (R0.out.below hb)
      have B1 := Kp.mk (B0.out.trans (hb.mono B0.out.size))
      obtain ⟨c0, c1, c2, f0, f1, f2, hl⟩ := tg_res R1.out
      clear hb
      go_wp2_with fail
      exact bodyPost_ret (v := .tuple #[.agg #[.int .i64 3, .string s, .string ⟨#[]⟩], .int .i64 0]) (by simp [results, Tryd.results9, go_sem, c0, c1, c2, hl]) rfl ⟨by rw [HR.out], tgbel3 B1.out (Nat.le_refl _) _ _ _⟩
set_option maxRecDepth 100000 in
set_option maxHeartbeats 4000000 in
theorem rtg_con1 (m s : ByteArray) (w : World) (hs : s.size ≤ 1000000) (h0 : 0 < s.size) (hb : tgBad s = false) (hm : m = tgCon) (hk : hsE s = 0 ∧ hsHas s = false) : Calls Tryd.prog 9 #[.string m, .string s] w (RetTg (tgR m s) w) := by
  obtain ⟨n1, n2⟩ := hs_nemp h0
  have HVI := Kp.mk (fun w => ref_visible_any s w (by unfold maxLen; omega))
  have HZ := Kp.mk (tgBk_zero s)
  have HT := Kp.mk (tgBk_all s)
  have R0 := Kp.mk (tgres_new w)
  have B0 := Kp.mk (tgb1 w (.cells #[.int .i64 0, .string ⟨#[]⟩, .string ⟨#[]⟩] 23))
  have hk1 := hk
  have HR := Kp.mk (show tgR m s = tgNo 11 by unfold tgR; rw [if_neg (by omega), if_neg (by rw [hb]; simp), if_pos hm, if_neg (fun q => by have := q.2; rw [hk.2] at this; cases this)])
  have HBAD := Kp.mk hb
  have hm1 : (m.toList == [67, 79, 78, 78, 69, 67, 84]) = true := by rw [hm, tgCon_z]; rfl
  have HNA := Kp.mk (fun w => rhs_name_any s w hs)
  have HPA := Kp.mk (fun w => rhs_parse_any s w hs)
  have HD := Kp.mk (show hsRet s = .tuple #[.string (hsN s), .int .i64 (hsP s), .int .i64 (hsE s)] from rfl)
  have HK := Kp.mk (fun k hk => tg_named (k := k) hk h0 hk1.1)
  rw [hk1.2] at HK
  have hq : (hsE s != 0) = false := by rw [hk1.1]; rfl
  generalize hsN s = N at *
  generalize hsP s = Q at *
  generalize hsE s = E at *
  clear hb hm hk hk1
  go_enter Tryd.func9, Tryd.ntmps9
  go_wp2_with fail
  refine (HVI.out _).mono ?_
  rintro e w1 ⟨rfl, rfl⟩
  go_wp2_with fail
  go_loop [6, 7] (fun b i => ∃ k : Nat, k ≤ s.size ∧ i = .int .i64 k ∧ b = .bool (tgBk s k)) (fun _ i => s.size - (intOf i).toNat)
  case atStart => exact ⟨0, by omega, rfl, by rw [HZ.out]⟩
  case round =>
    obtain ⟨k, hk, rfl, rfl⟩ := hrel
    by_cases hlt : k < s.size
    · have hx := bt_at s k hlt
      have HN := Kp.mk (tgBk_succ s k hlt)
      cases hb : tgBk s k
      · rw [hb] at HN
        have HN2 := Kp.mk (show tgBk s (k + 1) = ((bt s k : Int) == 35) from HN.out)
        clear hb HN
        go_wp2_with fail
        go_round
        case rel => exact ⟨k + 1, by omega, by go_num, by rw [HN2.out]⟩
        case measure => simp [intOf]; omega
      · rw [hb] at HN
        have HN2 := Kp.mk (show tgBk s (k + 1) = true from HN.out)
        clear hb HN hx
        go_wp2_with fail
        go_round
        case rel => exact ⟨k + 1, by omega, by go_num, by rw [HN2.out]⟩
        case measure => simp [intOf]; omega
    · obtain rfl : k = s.size := by omega
      clear hk
      rw [HT.out]
      rw [HBAD.out]
      go_wp2_with fail
      refine (HNA.out _).mono ?_
      rintro e w2 ⟨k, rfl, hk, rfl⟩
      have hq2 := HK.out k hk
      simp only [Bool.not_true, Bool.not_false] at hq2
      clear hk
      go_wp2_with fail
      refine (HPA.out _).mono ?_
      rintro e w3 ⟨rfl, hb⟩
      rw [HD.out]
      have R1 := Kp.mk (R0.out.below hb)
      have B1 := Kp.mk (B0.out.trans (hb.mono B0.out.size))
      obtain ⟨c0, c1, c2, f0, f1, f2, hl⟩ := tg_res R1.out
      clear hb
      go_wp2_with fail
      exact bodyPost_ret (v := .tuple #[.agg #[.int .i64 0, .string ⟨#[]⟩, .string ⟨#[]⟩], .int .i64 11]) (by simp [results, Tryd.results9, go_sem, c0, c1, c2, hl]) rfl ⟨by rw [HR.out]; rfl, tgbel3 B1.out (Nat.le_refl _) _ _ _⟩
set_option maxRecDepth 100000 in
set_option maxHeartbeats 4000000 in
theorem rtg_con0 (m s : ByteArray) (w : World) (hs : s.size ≤ 1000000) (h0 : 0 < s.size) (hb : tgBad s = false) (hm : m = tgCon) (hk : hsE s ≠ 0) : Calls Tryd.prog 9 #[.string m, .string s] w (RetTg (tgR m s) w) := by
  obtain ⟨n1, n2⟩ := hs_nemp h0
  have HVI := Kp.mk (fun w => ref_visible_any s w (by unfold maxLen; omega))
  have HZ := Kp.mk (tgBk_zero s)
  have HT := Kp.mk (tgBk_all s)
  have R0 := Kp.mk (tgres_new w)
  have B0 := Kp.mk (tgb1 w (.cells #[.int .i64 0, .string ⟨#[]⟩, .string ⟨#[]⟩] 23))
  have HR := Kp.mk (show tgR m s = tgNo 11 by unfold tgR; rw [if_neg (by omega), if_neg (by rw [hb]; simp), if_pos hm, if_neg (fun q => hk q.1)])
  have HBAD := Kp.mk hb
  have hm1 : (m.toList == [67, 79, 78, 78, 69, 67, 84]) = true := by rw [hm, tgCon_z]; rfl
  have HNA := Kp.mk (fun w => rhs_name_any s w hs)
  have HPA := Kp.mk (fun w => rhs_parse_any s w hs)
  have HD := Kp.mk (show hsRet s = .tuple #[.string (hsN s), .int .i64 (hsP s), .int .i64 (hsE s)] from rfl)
  have hq : (hsE s != 0) = true := bne_iff_ne.2 hk
  generalize hsN s = N at *
  generalize hsP s = Q at *
  generalize hsE s = E at *
  clear hb hm hk
  go_enter Tryd.func9, Tryd.ntmps9
  go_wp2_with fail
  refine (HVI.out _).mono ?_
  rintro e w1 ⟨rfl, rfl⟩
  go_wp2_with fail
  go_loop [6, 7] (fun b i => ∃ k : Nat, k ≤ s.size ∧ i = .int .i64 k ∧ b = .bool (tgBk s k)) (fun _ i => s.size - (intOf i).toNat)
  case atStart => exact ⟨0, by omega, rfl, by rw [HZ.out]⟩
  case round =>
    obtain ⟨k, hk, rfl, rfl⟩ := hrel
    by_cases hlt : k < s.size
    · have hx := bt_at s k hlt
      have HN := Kp.mk (tgBk_succ s k hlt)
      cases hb : tgBk s k
      · rw [hb] at HN
        have HN2 := Kp.mk (show tgBk s (k + 1) = ((bt s k : Int) == 35) from HN.out)
        clear hb HN
        go_wp2_with fail
        go_round
        case rel => exact ⟨k + 1, by omega, by go_num, by rw [HN2.out]⟩
        case measure => simp [intOf]; omega
      · rw [hb] at HN
        have HN2 := Kp.mk (show tgBk s (k + 1) = true from HN.out)
        clear hb HN hx
        go_wp2_with fail
        go_round
        case rel => exact ⟨k + 1, by omega, by go_num, by rw [HN2.out]⟩
        case measure => simp [intOf]; omega
    · obtain rfl : k = s.size := by omega
      clear hk
      rw [HT.out]
      rw [HBAD.out]
      go_wp2_with fail
      refine (HNA.out _).mono ?_
      rintro e w2 ⟨k, rfl, -, rfl⟩
      go_wp2_with fail
      refine (HPA.out _).mono ?_
      rintro e w3 ⟨rfl, hb⟩
      rw [HD.out]
      have R1 := Kp.mk (R0.out.below hb)
      have B1 := Kp.mk (B0.out.trans (hb.mono B0.out.size))
      obtain ⟨c0, c1, c2, f0, f1, f2, hl⟩ := tg_res R1.out
      clear hb
      go_wp2_with fail
      exact bodyPost_ret (v := .tuple #[.agg #[.int .i64 0, .string ⟨#[]⟩, .string ⟨#[]⟩], .int .i64 11]) (by simp [results, Tryd.results9, go_sem, c0, c1, c2, hl]) rfl ⟨by rw [HR.out]; rfl, tgbel3 B1.out (Nat.le_refl _) _ _ _⟩
set_option maxRecDepth 100000 in
set_option maxHeartbeats 4000000 in
theorem rtg_path (m s : ByteArray) (w : World) (hs : s.size ≤ 1000000) (h0 : 0 < s.size) (hb : tgBad s = false) (hm : m ≠ tgCon) (h47 : bt s 0 = 47) : Calls Tryd.prog 9 #[.string m, .string s] w (RetTg (tgR m s) w) := by
  obtain ⟨n1, n2⟩ := hs_nemp h0
  have HVI := Kp.mk (fun w => ref_visible_any s w (by unfold maxLen; omega))
  have HZ := Kp.mk (tgBk_zero s)
  have HT := Kp.mk (tgBk_all s)
  have R0 := Kp.mk (tgres_new w)
  have B0 := Kp.mk (tgb1 w (.cells #[.int .i64 0, .string ⟨#[]⟩, .string ⟨#[]⟩] 23))
  have HR := Kp.mk (tg_one hb hm h47)
  have HBAD := Kp.mk hb
  have hm1 : (m.toList == [67, 79, 78, 78, 69, 67, 84]) = false := by rw [← tgCon_z]; exact eq_no hm
  have hx0 := bt_at s 0 h0
  have hx2 : ((bt s 0 : Int) == 47) = true := by rw [h47]; rfl
  have hx3 : (0 : Int) < (s.size : Int) := by omega
  have HX := Kp.mk (And.intro hx0 hx2)
  clear hb hm h47 hx0 hx2
  go_enter Tryd.func9, Tryd.ntmps9
  go_wp2_with fail
  refine (HVI.out _).mono ?_
  rintro e w1 ⟨rfl, rfl⟩
  go_wp2_with fail
  go_loop [6, 7] (fun b i => ∃ k : Nat, k ≤ s.size ∧ i = .int .i64 k ∧ b = .bool (tgBk s k)) (fun _ i => s.size - (intOf i).toNat)
  case atStart => exact ⟨0, by omega, rfl, by rw [HZ.out]⟩
  case round =>
    obtain ⟨k, hk, rfl, rfl⟩ := hrel
    by_cases hlt : k < s.size
    · have hx := bt_at s k hlt
      have HN := Kp.mk (tgBk_succ s k hlt)
      cases hb : tgBk s k
      · rw [hb] at HN
        have HN2 := Kp.mk (show tgBk s (k + 1) = ((bt s k : Int) == 35) from HN.out)
        clear hb HN
        go_wp2_with fail
        go_round
        case rel => exact ⟨k + 1, by omega, by go_num, by rw [HN2.out]⟩
        case measure => simp [intOf]; omega
      · rw [hb] at HN
        have HN2 := Kp.mk (show tgBk s (k + 1) = true from HN.out)
        clear hb HN hx
        go_wp2_with fail
        go_round
        case rel => exact ⟨k + 1, by omega, by go_num, by rw [HN2.out]⟩
        case measure => simp [intOf]; omega
    · obtain rfl : k = s.size := by omega
      clear hk
      rw [HT.out]
      obtain ⟨hx0, hx2⟩ := HX.out
      rw [HBAD.out]
      go_wp2_with fail
      exact bodyPost_ret (v := .tuple #[.agg #[.int .i64 1, .string ⟨#[]⟩, .string s], .int .i64 0]) (by simp [results, Tryd.results9, go_sem]) rfl ⟨by rw [HR.out], tgb1 _ _⟩
set_option maxRecDepth 100000 in
set_option maxHeartbeats 4000000 in
theorem rtg_star (m s : ByteArray) (w : World) (hs : s.size ≤ 1000000) (h0 : 0 < s.size) (hb : tgBad s = false) (hm : m ≠ tgCon) (h47 : bt s 0 ≠ 47) (h42 : s = ⟨#[42]⟩) (hmo : m = tgOpt) : Calls Tryd.prog 9 #[.string m, .string s] w (RetTg (tgR m s) w) := by
  obtain ⟨n1, n2⟩ := hs_nemp h0
  have HVI := Kp.mk (fun w => ref_visible_any s w (by unfold maxLen; omega))
  have HZ := Kp.mk (tgBk_zero s)
  have HT := Kp.mk (tgBk_all s)
  have R0 := Kp.mk (tgres_new w)
  have B0 := Kp.mk (tgb1 w (.cells #[.int .i64 0, .string ⟨#[]⟩, .string ⟨#[]⟩] 23))
  have HR := Kp.mk (show tgR m s = ⟨0, 4, ⟨#[]⟩, ⟨#[]⟩⟩ by rw [h42, hmo]; exact tg_star)
  have HBAD := Kp.mk hb
  have hm1 : (m.toList == [67, 79, 78, 78, 69, 67, 84]) = false := by rw [← tgCon_z]; exact eq_no hm
  have hx0 := bt_at s 0 h0
  have hx2 : ((bt s 0 : Int) == 47) = false := by rw [beq_eq_false_iff_ne]; omega
  have hx3 : (0 : Int) < (s.size : Int) := by omega
  have hm2 : (m.toList == [79, 80, 84, 73, 79, 78, 83]) = true := by rw [hmo, tgOpt_z]; rfl
  have hs1 : (s.toList == [42]) = true := by rw [h42, tgStar_z]; rfl
  have HX := Kp.mk (And.intro hx0 hx2)
  clear hb hm h47 hx0 hx2 h42 hmo
  go_enter Tryd.func9, Tryd.ntmps9
  go_wp2_with fail
  refine (HVI.out _).mono ?_
  rintro e w1 ⟨rfl, rfl⟩
  go_wp2_with fail
  go_loop [6, 7] (fun b i => ∃ k : Nat, k ≤ s.size ∧ i = .int .i64 k ∧ b = .bool (tgBk s k)) (fun _ i => s.size - (intOf i).toNat)
  case atStart => exact ⟨0, by omega, rfl, by rw [HZ.out]⟩
  case round =>
    obtain ⟨k, hk, rfl, rfl⟩ := hrel
    by_cases hlt : k < s.size
    · have hx := bt_at s k hlt
      have HN := Kp.mk (tgBk_succ s k hlt)
      cases hb : tgBk s k
      · rw [hb] at HN
        have HN2 := Kp.mk (show tgBk s (k + 1) = ((bt s k : Int) == 35) from HN.out)
        clear hb HN
        go_wp2_with fail
        go_round
        case rel => exact ⟨k + 1, by omega, by go_num, by rw [HN2.out]⟩
        case measure => simp [intOf]; omega
      · rw [hb] at HN
        have HN2 := Kp.mk (show tgBk s (k + 1) = true from HN.out)
        clear hb HN hx
        go_wp2_with fail
        go_round
        case rel => exact ⟨k + 1, by omega, by go_num, by rw [HN2.out]⟩
        case measure => simp [intOf]; omega
    · obtain rfl : k = s.size := by omega
      clear hk
      rw [HT.out]
      obtain ⟨hx0, hx2⟩ := HX.out
      rw [HBAD.out]
      go_wp2_with fail
      exact bodyPost_ret (v := .tuple #[.agg #[.int .i64 4, .string ⟨#[]⟩, .string ⟨#[]⟩], .int .i64 0]) (by simp [results, Tryd.results9, go_sem]) rfl ⟨by rw [HR.out], tgb1 _ _⟩
set_option maxRecDepth 100000 in
set_option maxHeartbeats 4000000 in
theorem rtg_no2 (m s : ByteArray) (w : World) (hs : s.size ≤ 1000000) (h0 : 0 < s.size) (hb : tgBad s = false) (hm : m ≠ tgCon) (h47 : bt s 0 ≠ 47) (h42 : s = ⟨#[42]⟩) (hmo : m ≠ tgOpt) (hk : tgOkA s = false) : Calls Tryd.prog 9 #[.string m, .string s] w (RetTg (tgR m s) w) := by
  obtain ⟨n1, n2⟩ := hs_nemp h0
  have HVI := Kp.mk (fun w => ref_visible_any s w (by unfold maxLen; omega))
  have HZ := Kp.mk (tgBk_zero s)
  have HT := Kp.mk (tgBk_all s)
  have R0 := Kp.mk (tgres_new w)
  have B0 := Kp.mk (tgb1 w (.cells #[.int .i64 0, .string ⟨#[]⟩, .string ⟨#[]⟩] 23))
  have HR := Kp.mk (show tgR m s = tgNo 11 by unfold tgR; rw [if_neg (by omega), if_neg (by rw [hb]; simp), if_neg hm, if_neg h47, if_neg (fun q => hmo q.2), if_neg (by rw [hk]; simp)])
  have hm2 : (m.toList == [79, 80, 84, 73, 79, 78, 83]) = false := by rw [← tgOpt_z]; exact eq_no hmo
  have hs1 : (s.toList == [42]) = true := by rw [h42, tgStar_z]; rfl
  have HBAD := Kp.mk hb
  have hm1 : (m.toList == [67, 79, 78, 78, 69, 67, 84]) = false := by rw [← tgCon_z]; exact eq_no hm
  have hx0 := bt_at s 0 h0
  have hx2 : ((bt s 0 : Int) == 47) = false := by rw [beq_eq_false_iff_ne]; omega
  have hx3 : (0 : Int) < (s.size : Int) := by omega
  have HX := Kp.mk (And.intro hx0 hx2)
  clear hx0 hx2
  have hz7 : (s.size : Int) < 7 := by rw [h42]; decide
  clear hb hm h47 h42 hmo hk
  go_enter Tryd.func9, Tryd.ntmps9
  go_wp2_with fail
  refine (HVI.out _).mono ?_
  rintro e w1 ⟨rfl, rfl⟩
  go_wp2_with fail
  go_loop [6, 7] (fun b i => ∃ k : Nat, k ≤ s.size ∧ i = .int .i64 k ∧ b = .bool (tgBk s k)) (fun _ i => s.size - (intOf i).toNat)
  case atStart => exact ⟨0, by omega, rfl, by rw [HZ.out]⟩
  case round =>
    obtain ⟨k, hk, rfl, rfl⟩ := hrel
    by_cases hlt : k < s.size
    · have hx := bt_at s k hlt
      have HN := Kp.mk (tgBk_succ s k hlt)
      cases hb : tgBk s k
      · rw [hb] at HN
        have HN2 := Kp.mk (show tgBk s (k + 1) = ((bt s k : Int) == 35) from HN.out)
        clear hb HN
        go_wp2_with fail
        go_round
        case rel => exact ⟨k + 1, by omega, by go_num, by rw [HN2.out]⟩
        case measure => simp [intOf]; omega
      · rw [hb] at HN
        have HN2 := Kp.mk (show tgBk s (k + 1) = true from HN.out)
        clear hb HN hx
        go_wp2_with fail
        go_round
        case rel => exact ⟨k + 1, by omega, by go_num, by rw [HN2.out]⟩
        case measure => simp [intOf]; omega
    · obtain rfl : k = s.size := by omega
      clear hk
      rw [HT.out]
      obtain ⟨hx0, hx2⟩ := HX.out
      rw [HBAD.out]
      go_wp2_with fail
      exact bodyPost_ret (v := .tuple #[.agg #[.int .i64 0, .string ⟨#[]⟩, .string ⟨#[]⟩], .int .i64 11]) (by simp [results, Tryd.results9, go_sem]) rfl ⟨by rw [HR.out]; rfl, B0.out⟩
set_option maxRecDepth 100000 in
set_option maxHeartbeats 4000000 in
theorem rtg_short (m s : ByteArray) (w : World) (hs : s.size ≤ 1000000) (h0 : 0 < s.size) (hb : tgBad s = false) (hm : m ≠ tgCon) (h47 : bt s 0 ≠ 47) (h42 : s ≠ ⟨#[42]⟩) (hk : tgOkA s = false) (h7 : s.size < 7) : Calls Tryd.prog 9 #[.string m, .string s] w (RetTg (tgR m s) w) := by
  obtain ⟨n1, n2⟩ := hs_nemp h0
  have HVI := Kp.mk (fun w => ref_visible_any s w (by unfold maxLen; omega))
  have HZ := Kp.mk (tgBk_zero s)
  have HT := Kp.mk (tgBk_all s)
  have R0 := Kp.mk (tgres_new w)
  have B0 := Kp.mk (tgb1 w (.cells #[.int .i64 0, .string ⟨#[]⟩, .string ⟨#[]⟩] 23))
  have HR := Kp.mk (show tgR m s = tgNo 11 by unfold tgR; rw [if_neg (by omega), if_neg (by rw [hb]; simp), if_neg hm, if_neg h47, if_neg (fun q => h42 q.1), if_neg (by rw [hk]; simp)])
  have hs1 : (s.toList == [42]) = false := by rw [← tgStar_z]; exact eq_no h42
  have HBAD := Kp.mk hb
  have hm1 : (m.toList == [67, 79, 78, 78, 69, 67, 84]) = false := by rw [← tgCon_z]; exact eq_no hm
  have hx0 := bt_at s 0 h0
  have hx2 : ((bt s 0 : Int) == 47) = false := by rw [beq_eq_false_iff_ne]; omega
  have hx3 : (0 : Int) < (s.size : Int) := by omega
  have HX := Kp.mk (And.intro hx0 hx2)
  clear hx0 hx2
  have hz7 : (s.size : Int) < 7 := by omega
  clear hb hm h47 h42 hk
  go_enter Tryd.func9, Tryd.ntmps9
  go_wp2_with fail
  refine (HVI.out _).mono ?_
  rintro e w1 ⟨rfl, rfl⟩
  go_wp2_with fail
  go_loop [6, 7] (fun b i => ∃ k : Nat, k ≤ s.size ∧ i = .int .i64 k ∧ b = .bool (tgBk s k)) (fun _ i => s.size - (intOf i).toNat)
  case atStart => exact ⟨0, by omega, rfl, by rw [HZ.out]⟩
  case round =>
    obtain ⟨k, hk, rfl, rfl⟩ := hrel
    by_cases hlt : k < s.size
    · have hx := bt_at s k hlt
      have HN := Kp.mk (tgBk_succ s k hlt)
      cases hb : tgBk s k
      · rw [hb] at HN
        have HN2 := Kp.mk (show tgBk s (k + 1) = ((bt s k : Int) == 35) from HN.out)
        clear hb HN
        go_wp2_with fail
        go_round
        case rel => exact ⟨k + 1, by omega, by go_num, by rw [HN2.out]⟩
        case measure => simp [intOf]; omega
      · rw [hb] at HN
        have HN2 := Kp.mk (show tgBk s (k + 1) = true from HN.out)
        clear hb HN hx
        go_wp2_with fail
        go_round
        case rel => exact ⟨k + 1, by omega, by go_num, by rw [HN2.out]⟩
        case measure => simp [intOf]; omega
    · obtain rfl : k = s.size := by omega
      clear hk
      rw [HT.out]
      obtain ⟨hx0, hx2⟩ := HX.out
      rw [HBAD.out]
      go_wp2_with fail
      exact bodyPost_ret (v := .tuple #[.agg #[.int .i64 0, .string ⟨#[]⟩, .string ⟨#[]⟩], .int .i64 11]) (by simp [results, Tryd.results9, go_sem]) rfl ⟨by rw [HR.out]; rfl, B0.out⟩
set_option maxRecDepth 100000 in
set_option maxHeartbeats 4000000 in
theorem rtg_other (m s : ByteArray) (w : World) (hs : s.size ≤ 1000000) (h0 : 0 < s.size) (hb : tgBad s = false) (hm : m ≠ tgCon) (h47 : bt s 0 ≠ 47) (h42 : s ≠ ⟨#[42]⟩) (hk : tgOkA s = false) (h7 : 7 ≤ s.size) (hf : foldB (s.extract 0 7) tgSch = false) : Calls Tryd.prog 9 #[.string m, .string s] w (RetTg (tgR m s) w) := by
  obtain ⟨n1, n2⟩ := hs_nemp h0
  have HVI := Kp.mk (fun w => ref_visible_any s w (by unfold maxLen; omega))
  have HZ := Kp.mk (tgBk_zero s)
  have HT := Kp.mk (tgBk_all s)
  have R0 := Kp.mk (tgres_new w)
  have B0 := Kp.mk (tgb1 w (.cells #[.int .i64 0, .string ⟨#[]⟩, .string ⟨#[]⟩] 23))
  have HR := Kp.mk (show tgR m s = tgNo 11 by unfold tgR; rw [if_neg (by omega), if_neg (by rw [hb]; simp), if_neg hm, if_neg h47, if_neg (fun q => h42 q.1), if_neg (by rw [hk]; simp)])
  have hs1 : (s.toList == [42]) = false := by rw [← tgStar_z]; exact eq_no h42
  have HBAD := Kp.mk hb
  have hm1 : (m.toList == [67, 79, 78, 78, 69, 67, 84]) = false := by rw [← tgCon_z]; exact eq_no hm
  have hx0 := bt_at s 0 h0
  have hx2 : ((bt s 0 : Int) == 47) = false := by rw [beq_eq_false_iff_ne]; omega
  have hx3 : (0 : Int) < (s.size : Int) := by omega
  have HX := Kp.mk (And.intro hx0 hx2)
  clear hx0 hx2
  have HLO := Kp.mk (fun w => ref_lower_any (s.extract 0 7) w (by rw [ByteArray.size_extract]; omega))
  have HF := Kp.mk (show ((lowB (s.extract 0 7)).toList == [104, 116, 116, 112, 58, 47, 47]) = foldB (s.extract 0 7) tgSch by rw [tg_fold]; rw [tgSch_z])
  have hz7 : ¬ (s.size : Int) < 7 := by omega
  have hz8 : (7 : Int) ≤ (s.size : Int) := by omega
  have HF2 := Kp.mk (show ((lowB (s.extract 0 7)).toList == [104, 116, 116, 112, 58, 47, 47]) = false by rw [HF.out, hf])
  clear hb hm h47 h42 hk h7 hf HF
  go_enter Tryd.func9, Tryd.ntmps9
  go_wp2_with fail
  refine (HVI.out _).mono ?_
  rintro e w1 ⟨rfl, rfl⟩
  go_wp2_with fail
  go_loop [6, 7] (fun b i => ∃ k : Nat, k ≤ s.size ∧ i = .int .i64 k ∧ b = .bool (tgBk s k)) (fun _ i => s.size - (intOf i).toNat)
  case atStart => exact ⟨0, by omega, rfl, by rw [HZ.out]⟩
  case round =>
    obtain ⟨k, hk, rfl, rfl⟩ := hrel
    by_cases hlt : k < s.size
    · have hx := bt_at s k hlt
      have HN := Kp.mk (tgBk_succ s k hlt)
      cases hb : tgBk s k
      · rw [hb] at HN
        have HN2 := Kp.mk (show tgBk s (k + 1) = ((bt s k : Int) == 35) from HN.out)
        clear hb HN
        go_wp2_with fail
        go_round
        case rel => exact ⟨k + 1, by omega, by go_num, by rw [HN2.out]⟩
        case measure => simp [intOf]; omega
      · rw [hb] at HN
        have HN2 := Kp.mk (show tgBk s (k + 1) = true from HN.out)
        clear hb HN hx
        go_wp2_with fail
        go_round
        case rel => exact ⟨k + 1, by omega, by go_num, by rw [HN2.out]⟩
        case measure => simp [intOf]; omega
    · obtain rfl : k = s.size := by omega
      clear hk
      rw [HT.out]
      obtain ⟨hx0, hx2⟩ := HX.out
      rw [HBAD.out]
      go_wp2_with fail
      refine (HLO.out _).mono ?_
      rintro e w2 ⟨rfl, hb⟩
      have R1 := Kp.mk (R0.out.below hb)
      have B1 := Kp.mk (B0.out.trans (hb.mono B0.out.size))
      obtain ⟨c0, c1, c2, f0, f1, f2, hl⟩ := tg_res R1.out
      have hfo := HF2.out
      clear hb
      generalize lowB (s.extract 0 7) = LS at *
      go_wp2_with fail
      exact bodyPost_ret (v := .tuple #[.agg #[.int .i64 0, .string ⟨#[]⟩, .string ⟨#[]⟩], .int .i64 11]) (by simp [results, Tryd.results9, go_sem, c0, c1, c2, hl]) rfl ⟨by rw [HR.out]; rfl, tgbel3 B1.out (Nat.le_refl _) _ _ _⟩
set_option maxRecDepth 100000 in
set_option maxHeartbeats 4000000 in
theorem rtg_host (m s : ByteArray) (w : World) (hs : s.size ≤ 1000000) (h0 : 0 < s.size) (hb : tgBad s = false) (hm : m ≠ tgCon) (h47 : bt s 0 ≠ 47) (h42 : s ≠ ⟨#[42]⟩) (hk : tgOkA s = false) (h7 : 7 ≤ s.size) (hf : foldB (s.extract 0 7) tgSch = true) : Calls Tryd.prog 9 #[.string m, .string s] w (RetTg (tgR m s) w) := by
  obtain ⟨n1, n2⟩ := hs_nemp h0
  have HVI := Kp.mk (fun w => ref_visible_any s w (by unfold maxLen; omega))
  have HZ := Kp.mk (tgBk_zero s)
  have HT := Kp.mk (tgBk_all s)
  have R0 := Kp.mk (tgres_new w)
  have B0 := Kp.mk (tgb1 w (.cells #[.int .i64 0, .string ⟨#[]⟩, .string ⟨#[]⟩] 23))
  have HR := Kp.mk (show tgR m s = tgNo 11 by unfold tgR; rw [if_neg (by omega), if_neg (by rw [hb]; simp), if_neg hm, if_neg h47, if_neg (fun q => h42 q.1), if_neg (by rw [hk]; simp)])
  have hs1 : (s.toList == [42]) = false := by rw [← tgStar_z]; exact eq_no h42
  have HBAD := Kp.mk hb
  have hm1 : (m.toList == [67, 79, 78, 78, 69, 67, 84]) = false := by rw [← tgCon_z]; exact eq_no hm
  have hx0 := bt_at s 0 h0
  have hx2 : ((bt s 0 : Int) == 47) = false := by rw [beq_eq_false_iff_ne]; omega
  have hx3 : (0 : Int) < (s.size : Int) := by omega
  have HX := Kp.mk (And.intro hx0 hx2)
  clear hx0 hx2
  have HLO := Kp.mk (fun w => ref_lower_any (s.extract 0 7) w (by rw [ByteArray.size_extract]; omega))
  have HF := Kp.mk (show ((lowB (s.extract 0 7)).toList == [104, 116, 116, 112, 58, 47, 47]) = foldB (s.extract 0 7) tgSch by rw [tg_fold]; rw [tgSch_z])
  have hz7 : ¬ (s.size : Int) < 7 := by omega
  have hz8 : (7 : Int) ≤ (s.size : Int) := by omega
  have hE : (hsE (tgAu s) != 0) = true := by
    unfold tgOkA tgAbs at hk
    rw [hf, decide_eq_true h7] at hk
    have hk2 : (hsE (tgAu s) == 0) = false := hk
    unfold bne; rw [hk2]; rfl
  have HF2 := Kp.mk (show ((lowB (s.extract 0 7)).toList == [104, 116, 116, 112, 58, 47, 47]) = true by rw [HF.out, hf])
  have HPA := Kp.mk (fun w => rhs_parse_any (tgAu s) w (by unfold tgAu; rw [ByteArray.size_extract]; omega))
  have HD := Kp.mk (show hsRet (tgAu s) = .tuple #[.string (hsN (tgAu s)), .int .i64 (hsP (tgAu s)), .int .i64 (hsE (tgAu s))] from rfl)
  have HAU := Kp.mk (show ∀ k, tgCut s = k → s.extract 7 k = tgAu s ∧ s.extract k s.size = tgPa s from fun k hk => by subst hk; exact ⟨rfl, rfl⟩)
  generalize hsN (tgAu s) = N at *
  generalize hsP (tgAu s) = Q at *
  generalize hsE (tgAu s) = E at *
  clear hb hm h47 h42 hk h7 hf HF
  go_enter Tryd.func9, Tryd.ntmps9
  go_wp2_with fail
  refine (HVI.out _).mono ?_
  rintro e w1 ⟨rfl, rfl⟩
  go_wp2_with fail
  go_loop [6, 7] (fun b i => ∃ k : Nat, k ≤ s.size ∧ i = .int .i64 k ∧ b = .bool (tgBk s k)) (fun _ i => s.size - (intOf i).toNat)
  case atStart => exact ⟨0, by omega, rfl, by rw [HZ.out]⟩
  case round =>
    obtain ⟨k, hk, rfl, rfl⟩ := hrel
    by_cases hlt : k < s.size
    · have hx := bt_at s k hlt
      have HN := Kp.mk (tgBk_succ s k hlt)
      cases hb : tgBk s k
      · rw [hb] at HN
        have HN2 := Kp.mk (show tgBk s (k + 1) = ((bt s k : Int) == 35) from HN.out)
        clear hb HN
        go_wp2_with fail
        go_round
        case rel => exact ⟨k + 1, by omega, by go_num, by rw [HN2.out]⟩
        case measure => simp [intOf]; omega
      · rw [hb] at HN
        have HN2 := Kp.mk (show tgBk s (k + 1) = true from HN.out)
        clear hb HN hx
        go_wp2_with fail
        go_round
        case rel => exact ⟨k + 1, by omega, by go_num, by rw [HN2.out]⟩
        case measure => simp [intOf]; omega
    · obtain rfl : k = s.size := by omega
      clear hk
      rw [HT.out]
      obtain ⟨hx0, hx2⟩ := HX.out
      rw [HBAD.out]
      go_wp2_with fail
      refine (HLO.out _).mono ?_
      rintro e w2 ⟨rfl, hb⟩
      have R1 := Kp.mk (R0.out.below hb)
      have B1 := Kp.mk (B0.out.trans (hb.mono B0.out.size))
      obtain ⟨c0, c1, c2, f0, f1, f2, hl⟩ := tg_res R1.out
      have hfo := HF2.out
      clear hb
      generalize lowB (s.extract 0 7) = LS at *
      go_wp2_with fail
      go_loop [12] (fun a => ∃ k : Nat, 7 ≤ k ∧ k ≤ s.size ∧ a = .int .i64 k ∧ ∀ j, 7 ≤ j → j < k → bt s j ≠ 47 ∧ bt s j ≠ 63) (fun a => s.size - (intOf a).toNat)
      case atStart => exact ⟨7, by omega, by omega, rfl, fun j h1 h2 => by omega⟩
      case round =>
        obtain ⟨k, k1, k2, rfl, hr⟩ := hrel
        have HRR := Kp.mk hr
        clear hr
        have main : (k = s.size ∨ (k < s.size ∧ (bt s k = 47 ∨ bt s k = 63))) ∨ (k < s.size ∧ bt s k ≠ 47 ∧ bt s k ≠ 63) := by omega
        rcases main with hend | ⟨hlt2, g1, g2⟩
        · have HC := Kp.mk (HAU.out k (tgCut_of k1 k2 HRR.out hend))
          have j1 : (7 : Int) ≤ (k : Int) := by omega
          have j2 : (k : Int) ≤ (s.size : Int) := by omega
          rcases hend with rfl | ⟨hlt2, g1 | g1⟩
          all_goals
            (try have hy := bt_at s k hlt2)
            (try rw [g1] at hy)
            (try have j3 : (k : Int) < (s.size : Int) := by omega)
            (try have j4 : (0 : Int) ≤ (k : Int) := by omega)
            go_wp2_with fail
            rw [HC.out.1]
            refine (HPA.out _).mono ?_
            rintro e w3 ⟨rfl, hb⟩
            rw [HD.out]
            have R2 := Kp.mk (R1.out.below hb)
            have B2 := Kp.mk (B1.out.trans (hb.mono B1.out.size))
            clear hb c0 c1 c2 f0 f1 f2 hl
            obtain ⟨c0, c1, c2, f0, f1, f2, hl⟩ := tg_res R2.out
            go_wp2_with fail
            exact bodyPost_ret (v := .tuple #[.agg #[.int .i64 0, .string ⟨#[]⟩, .string ⟨#[]⟩], .int .i64 11]) (by simp [results, Tryd.results9, go_sem, c0, c1, c2, hl]) rfl ⟨by rw [HR.out]; rfl, tgbel3 B2.out (Nat.le_refl _) _ _ _⟩
        · have hy := bt_at s k hlt2
          have j3 : (k : Int) < (s.size : Int) := by omega
          have j4 : (0 : Int) ≤ (k : Int) := by omega
          have j5 : ((bt s k : Int) != 47) = true := by rw [bne_iff_ne]; omega
          have j6 : ((bt s k : Int) != 63) = true := by rw [bne_iff_ne]; omega
          go_wp2_with fail
          go_round
          case rel =>
            refine ⟨k + 1, by omega, by omega, by go_num, fun j h1 h2 => ?_⟩
            by_cases hj : j < k
            · exact HRR.out j h1 hj
            · obtain rfl : j = k := by omega
              exact ⟨g1, g2⟩
          case measure => simp [intOf]; omega
set_option maxRecDepth 100000 in
set_option maxHeartbeats 4000000 in
theorem rtg_abs (m s : ByteArray) (w : World) (hs : s.size ≤ 1000000) (h0 : 0 < s.size) (hb : tgBad s = false) (hm : m ≠ tgCon) (h47 : bt s 0 ≠ 47) (h42 : s ≠ ⟨#[42]⟩) (hk : tgOkA s = true) (h7 : 7 ≤ s.size) (hf : foldB (s.extract 0 7) tgSch = true) : Calls Tryd.prog 9 #[.string m, .string s] w (RetTg (tgR m s) w) := by
  obtain ⟨n1, n2⟩ := hs_nemp h0
  have HVI := Kp.mk (fun w => ref_visible_any s w (by unfold maxLen; omega))
  have HZ := Kp.mk (tgBk_zero s)
  have HT := Kp.mk (tgBk_all s)
  have R0 := Kp.mk (tgres_new w)
  have B0 := Kp.mk (tgb1 w (.cells #[.int .i64 0, .string ⟨#[]⟩, .string ⟨#[]⟩] 23))
  have HR := Kp.mk (tg_abs hb hm h47 (fun q => h42 q.1) hk)
  have hs1 : (s.toList == [42]) = false := by rw [← tgStar_z]; exact eq_no h42
  have HBAD := Kp.mk hb
  have hm1 : (m.toList == [67, 79, 78, 78, 69, 67, 84]) = false := by rw [← tgCon_z]; exact eq_no hm
  have hx0 := bt_at s 0 h0
  have hx2 : ((bt s 0 : Int) == 47) = false := by rw [beq_eq_false_iff_ne]; omega
  have hx3 : (0 : Int) < (s.size : Int) := by omega
  have HX := Kp.mk (And.intro hx0 hx2)
  clear hx0 hx2
  have HLO := Kp.mk (fun w => ref_lower_any (s.extract 0 7) w (by rw [ByteArray.size_extract]; omega))
  have HF := Kp.mk (show ((lowB (s.extract 0 7)).toList == [104, 116, 116, 112, 58, 47, 47]) = foldB (s.extract 0 7) tgSch by rw [tg_fold]; rw [tgSch_z])
  have hz7 : ¬ (s.size : Int) < 7 := by omega
  have hz8 : (7 : Int) ≤ (s.size : Int) := by omega
  have hE : (hsE (tgAu s) != 0) = false := by
    unfold tgOkA tgAbs at hk
    rw [hf, decide_eq_true h7] at hk
    have hk2 : (hsE (tgAu s) == 0) = true := hk
    unfold bne; rw [hk2]; rfl
  have HF2 := Kp.mk (show ((lowB (s.extract 0 7)).toList == [104, 116, 116, 112, 58, 47, 47]) = true by rw [HF.out, hf])
  have HPA := Kp.mk (fun w => rhs_parse_any (tgAu s) w (by unfold tgAu; rw [ByteArray.size_extract]; omega))
  have HD := Kp.mk (show hsRet (tgAu s) = .tuple #[.string (hsN (tgAu s)), .int .i64 (hsP (tgAu s)), .int .i64 (hsE (tgAu s))] from rfl)
  have HAU := Kp.mk (show ∀ k, tgCut s = k → s.extract 7 k = tgAu s ∧ s.extract k s.size = tgPa s from fun k hk => by subst hk; exact ⟨rfl, rfl⟩)
  generalize hsN (tgAu s) = N at *
  generalize hsP (tgAu s) = Q at *
  generalize hsE (tgAu s) = E at *
  clear hb hm h47 h42 hk h7 hf HF
  go_enter Tryd.func9, Tryd.ntmps9
  go_wp2_with fail
  refine (HVI.out _).mono ?_
  rintro e w1 ⟨rfl, rfl⟩
  go_wp2_with fail
  go_loop [6, 7] (fun b i => ∃ k : Nat, k ≤ s.size ∧ i = .int .i64 k ∧ b = .bool (tgBk s k)) (fun _ i => s.size - (intOf i).toNat)
  case atStart => exact ⟨0, by omega, rfl, by rw [HZ.out]⟩
  case round =>
    obtain ⟨k, hk, rfl, rfl⟩ := hrel
    by_cases hlt : k < s.size
    · have hx := bt_at s k hlt
      have HN := Kp.mk (tgBk_succ s k hlt)
      cases hb : tgBk s k
      · rw [hb] at HN
        have HN2 := Kp.mk (show tgBk s (k + 1) = ((bt s k : Int) == 35) from HN.out)
        clear hb HN
        go_wp2_with fail
        go_round
        case rel => exact ⟨k + 1, by omega, by go_num, by rw [HN2.out]⟩
        case measure => simp [intOf]; omega
      · rw [hb] at HN
        have HN2 := Kp.mk (show tgBk s (k + 1) = true from HN.out)
        clear hb HN hx
        go_wp2_with fail
        go_round
        case rel => exact ⟨k + 1, by omega, by go_num, by rw [HN2.out]⟩
        case measure => simp [intOf]; omega
    · obtain rfl : k = s.size := by omega
      clear hk
      rw [HT.out]
      obtain ⟨hx0, hx2⟩ := HX.out
      rw [HBAD.out]
      go_wp2_with fail
      refine (HLO.out _).mono ?_
      rintro e w2 ⟨rfl, hb⟩
      have R1 := Kp.mk (R0.out.below hb)
      have B1 := Kp.mk (B0.out.trans (hb.mono B0.out.size))
      obtain ⟨c0, c1, c2, f0, f1, f2, hl⟩ := tg_res R1.out
      have hfo := HF2.out
      clear hb
      generalize lowB (s.extract 0 7) = LS at *
      go_wp2_with fail
      go_loop [12] (fun a => ∃ k : Nat, 7 ≤ k ∧ k ≤ s.size ∧ a = .int .i64 k ∧ ∀ j, 7 ≤ j → j < k → bt s j ≠ 47 ∧ bt s j ≠ 63) (fun a => s.size - (intOf a).toNat)
      case atStart => exact ⟨7, by omega, by omega, rfl, fun j h1 h2 => by omega⟩
      case round =>
        obtain ⟨k, k1, k2, rfl, hr⟩ := hrel
        have HRR := Kp.mk hr
        clear hr
        have main : (k = s.size ∨ (k < s.size ∧ (bt s k = 47 ∨ bt s k = 63))) ∨ (k < s.size ∧ bt s k ≠ 47 ∧ bt s k ≠ 63) := by omega
        rcases main with hend | ⟨hlt2, g1, g2⟩
        · have HC := Kp.mk (HAU.out k (tgCut_of k1 k2 HRR.out hend))
          have j1 : (7 : Int) ≤ (k : Int) := by omega
          have j2 : (k : Int) ≤ (s.size : Int) := by omega
          rcases hend with rfl | ⟨hlt2, g1 | g1⟩
          all_goals
            (try have hy := bt_at s k hlt2)
            (try rw [g1] at hy)
            (try have j3 : (k : Int) < (s.size : Int) := by omega)
            (try have j4 : (0 : Int) ≤ (k : Int) := by omega)
            go_wp2_with fail
            rw [HC.out.1]
            refine (HPA.out _).mono ?_
            rintro e w3 ⟨rfl, hb⟩
            rw [HD.out]
            have R2 := Kp.mk (R1.out.below hb)
            have B2 := Kp.mk (B1.out.trans (hb.mono B1.out.size))
            clear hb c0 c1 c2 f0 f1 f2 hl
            obtain ⟨c0, c1, c2, f0, f1, f2, hl⟩ := tg_res R2.out
            go_wp2_with fail
            go_region
            all_goals
              have q1 := HC.out.1
              have q2 := HC.out.2
              go_wp2_with fail
              first
                | (rw [q1, q2]; exact bodyPost_ret (v := .tuple #[.agg #[.int .i64 2, .string (tgAu s), .string (tgPa s)], .int .i64 0]) (by simp [results, Tryd.results9, go_sem, c0, c1, c2, hl]) rfl ⟨by rw [HR.out], by first | exact tgbel3 B2.out (Nat.le_refl _) _ _ _ | exact (tgbel3 B2.out (Nat.le_refl _) _ _ _).drew | exact tgbel3 B2.out.drew (Nat.le_refl _) _ _ _⟩)
                | (rw [q1]; exact bodyPost_ret (v := .tuple #[.agg #[.int .i64 2, .string (tgAu s), .string ByteArray.empty], .int .i64 0]) (by simp [results, Tryd.results9, go_sem, c0, c1, c2, hl]) rfl ⟨by rw [HR.out, ← q2, tg_xx]; rfl, by first | exact tgbel3 B2.out (Nat.le_refl _) _ _ _ | exact (tgbel3 B2.out (Nat.le_refl _) _ _ _).drew | exact tgbel3 B2.out.drew (Nat.le_refl _) _ _ _⟩)
        · have hy := bt_at s k hlt2
          have j3 : (k : Int) < (s.size : Int) := by omega
          have j4 : (0 : Int) ≤ (k : Int) := by omega
          have j5 : ((bt s k : Int) != 47) = true := by rw [bne_iff_ne]; omega
          have j6 : ((bt s k : Int) != 63) = true := by rw [bne_iff_ne]; omega
          go_wp2_with fail
          go_round
          case rel =>
            refine ⟨k + 1, by omega, by omega, by go_num, fun j h1 h2 => ?_⟩
            by_cases hj : j < k
            · exact HRR.out j h1 hj
            · obtain rfl : j = k := by omega
              exact ⟨g1, g2⟩
          case measure => simp [intOf]; omega
set_option maxRecDepth 100000 in
theorem rtg_parse_any (m s : ByteArray) (w : World) (hm : m.size ≤ 1000000) (hs : s.size ≤ 1000000) : Calls Tryd.prog 9 #[.string m, .string s] w (RetTg (tgR m s) w) := by
  by_cases h0 : s.size = 0
  · obtain rfl := hs_emp (x := s) (by omega)
    have HR := Kp.mk (show tgR m ⟨#[]⟩ = tgNo 2 from rfl)
    go_enter Tryd.func9, Tryd.ntmps9
    go_wp2_with fail
    exact bodyPost_ret (v := .tuple #[.agg #[.int .i64 0, .string ⟨#[]⟩, .string ⟨#[]⟩], .int .i64 2]) (by simp [results, Tryd.results9, go_sem]) rfl ⟨by rw [HR.out]; rfl, tgb1 _ _⟩
  · have h0 : 0 < s.size := by omega
    cases hb : tgBad s
    · by_cases hc : m = tgCon
      · by_cases hk : hsE s = 0
        · cases hh : hsHas s
          · exact rtg_con1 m s w hs h0 hb hc ⟨hk, hh⟩
          · exact rtg_con m s w hs h0 hb hc ⟨hk, hh⟩
        · exact rtg_con0 m s w hs h0 hb hc hk
      · by_cases h47 : bt s 0 = 47
        · exact rtg_path m s w hs h0 hb hc h47
        · by_cases h42 : s = ⟨#[42]⟩
          · by_cases hmo : m = tgOpt
            · exact rtg_star m s w hs h0 hb hc h47 h42 hmo
            · exact rtg_no2 m s w hs h0 hb hc h47 h42 hmo (by rw [h42]; exact tgOkA_star)
          · by_cases h7 : 7 ≤ s.size
            · cases hf : foldB (s.extract 0 7) tgSch
              · exact rtg_other m s w hs h0 hb hc h47 h42 (by unfold tgOkA tgAbs; rw [hf, Bool.and_false]; rfl) h7 hf
              · cases hk : tgOkA s
                · exact rtg_host m s w hs h0 hb hc h47 h42 hk h7 hf
                · exact rtg_abs m s w hs h0 hb hc h47 h42 hk h7 hf
            · exact rtg_short m s w hs h0 hb hc h47 h42 (by unfold tgOkA tgAbs; rw [decide_eq_false h7]; rfl) (by omega)
    · exact rtg_bad m s w hs h0 hb
end Go.Proofs.YtahehpgnemanmaaDoor
