/- Layer 2: numbers, as the document's answer reads them. -/
import Derived.Test.YtahehpgnemanmaaDig
namespace Go.Proofs.Ytahehpgnemanmaa
open Go.RowKit
set_option linter.unusedVariables false
set_option linter.unusedSimpArgs false

theorem digV_zero {n b : Nat} (hb : b ≤ 16) (h : digV n < b) (h0 : n ≠ 48) : 1 ≤ digV n := by
  unfold digV at *
  repeat' split
  all_goals omega
theorem valN_more (b : Nat) (hb : 1 ≤ b) (s : ByteArray) (k : Nat) (h : k < s.size) : valN b (s.data.toList.take k) * b ≤ valN b s.data.toList := by
  have h1 := valN_take b s k h
  have h2 := valN_take_le b hb s (k + 1)
  omega

set_option maxRecDepth 100000 in
set_option maxHeartbeats 1000000 in
theorem ref_number_10_any (s : ByteArray) (most : Int) (w : World) (hs : s.size ≤ maxLen) (hm0 : -9223372036854775808 ≤ most) (hm1 : most ≤ 9223372036854775807) :
    Calls Try.prog 39 #[.string s, .int .i64 10, .int .i64 most] w fun e w' => e = .returned (.tuple #[.int .i64 (numV 10 s most), .int .i64 (numE 10 s most)]) ∧ w = w' := by
  unfold maxLen at hs
  by_cases h0 : s.size = 0
  · have hn := num_empty (b := 10) (most := most) h0
    rw [hn.1, hn.2]
    clear hn
    go_enter Try.func39, Try.ntmps39
    go_wp2
    go_ret2
    exact ⟨rfl, rfl⟩
  · have H0 := Lib.hid h0
    have h0' : 0 < s.size := by omega
    have h0b : ((s.size : Int) == 0) = false := by rw [beq_eq_false_iff_ne]; omega
    clear h0
    go_enter Try.func39, Try.ntmps39
    go_wp2
    go_loop [8] (fun i => ∃ k : Nat, k ≤ s.size ∧ i = .int .i64 k ∧ ∀ j, j < k → digV (bt s j) < 10) (fun i => s.size - (intOf i).toNat)
    case atStart => exact ⟨0, by omega, rfl, fun j h => by omega⟩
    case round =>
      obtain ⟨k, hk, rfl, hok⟩ := hrel
      have HOK := Lib.hid hok
      clear hok
      by_cases hlt : k < s.size
      · have hb := bt_at s k hlt
        have HB := Lib.hid hb
        have h255 := bt_lt s k
        rw [← hb] at h255
        clear hb
        go_wp2_with fail
        refine (ref_value2_any _ _ (by omega) (by omega)).mono ?_
        rintro e w' ⟨rfl, rfl⟩
        rw [Int.toNat_natCast, HB.out]
        by_cases hd : digV (bt s k) < 10
        · have HD := Lib.hid hd
          generalize hdd : digV (bt s k) = d at *
          have HDD := Lib.hid hdd
          clear hdd
          go_wp2
          go_round
          case rel =>
            refine ⟨k + 1, by omega, by go_num, fun j hj => ?_⟩
            by_cases hjk : j < k
            · exact HOK.out j hjk
            · obtain rfl : j = k := by omega
              rw [HDD.out]; exact HD.out
          case measure => simp [intOf]; omega
        · have HN := Lib.hid (num_form (b := 10) (most := most) k hlt (by omega))
          generalize digV (bt s k) = d at *
          have hd' : (10 : Int) ≤ d := by omega
          clear hd
          go_wp2
          go_ret2
          exact ⟨ret_two HN.out, rfl⟩
      · have hokA : ∀ j, j < s.size → digV (bt s j) < 10 := fun j hj => HOK.out j (by omega)
        have HOKA := Lib.hid hokA
        clear hokA HOK
        go_wp2
        go_loop [0] (fun v => ∃ (x : ByteArray) (p : List UInt8), v = .string x ∧ s.data.toList = p ++ x.data.toList ∧ (∀ c ∈ p, c.toNat = 48) ∧ 0 < x.size) (fun v => szOf v)
        case atStart => exact ⟨s, [], rfl, by simp, by simp, h0'⟩
        case round =>
          obtain ⟨x, p, rfl, hx, hpz, hx0⟩ := hrel
          have hxs : x.size ≤ s.size := by rw [ba_size, ba_size, hx]; simp
          have HX := Lib.hid hx
          have HPZ := Lib.hid hpz
          have hbx := bt_at x 0 hx0
          have HBX := Lib.hid hbx
          clear hx hpz hbx
          by_cases hgo : 1 < x.size ∧ bt x 0 = 48
          · obtain ⟨g1, g2⟩ := hgo
            have e1 : ((x[0].toNat : Int) == 48) = true := by rw [HBX.out, g2]; rfl
            have he : x.data.toList = x[0] :: (x.extract 1 x.size).data.toList := by
              rw [Lib.extract_to_end]
              have := List.drop_eq_getElem_cons (l := x.data.toList) (i := 0) (by rw [← ba_size]; exact hx0)
              exact this
            have hes : (x.extract 1 x.size).size = x.size - 1 := by rw [ba_size, Lib.extract_to_end, List.length_drop, ← ba_size]
            have HE := Lib.hid he
            have HES := Lib.hid hes
            have HG2 := Lib.hid g2
            clear he hes g2
            go_wp2
            go_round
            case rel =>
              refine ⟨_, p ++ [x[0]], rfl, by rw [HX.out, List.append_assoc, List.singleton_append, ← HE.out], fun c hc => ?_, by rw [HES.out]; omega⟩
              rcases List.mem_append.1 hc with hc | hc
              · exact HPZ.out c hc
              · rw [List.mem_singleton.1 hc, HBX.out, HG2.out]
            case measure =>
              show (x.extract 1 x.size).size < x.size
              rw [HES.out]; omega
          · have hval : valN 10 s.data.toList = valN 10 x.data.toList := by rw [HX.out]; exact valN_zero 10 _ p HPZ.out
            have hokx : ∀ j, j < x.size → digV (bt x j) < 10 := by
              intro j hj
              have hjs : p.length + j < s.size := by rw [ba_size, HX.out, List.length_append, ← ba_size]; omega
              have := HOKA.out (p.length + j) hjs
              rw [← bt_list s _ hjs] at this
              rw [← bt_list x j hj]
              simp only [HX.out] at this
              rw [List.getElem_append_right (by omega)] at this
              simpa using this
            have HVAL := Lib.hid hval
            have HOKX := Lib.hid hokx
            have hbig : 19 < x.size → 9223372036854775807 < valN 10 x.data.toList := by
              intro h
              have hb0 : bt x 0 ≠ 48 := fun e => hgo ⟨by omega, e⟩
              cases hl : x.data.toList with
              | nil => rw [ba_len hl] at hx0; simp at hx0
              | cons c r =>
                have hd0 := digV_zero (b := 10) (by omega) (hokx 0 hx0) hb0
                rw [bt_cons hl] at hd0
                exact valN_big 10 (by omega) c r hd0 (by rw [ba_len hl] at h; simp at h; omega)
            have HBIG := Lib.hid hbig
            have hstop : x.size = 1 ∨ (1 < x.size ∧ ((x[0].toNat : Int) == 48) = false) := by
              by_cases h1 : x.size = 1
              · exact .inl h1
              · refine .inr ⟨by omega, ?_⟩
                rw [HBX.out]
                have : bt x 0 ≠ 48 := fun e => hgo ⟨by omega, e⟩
                simp; omega
            clear hval hokx hbig hgo
            by_cases h19 : 19 < x.size
            · have HN := Lib.hid (num_great (b := 10) (most := most) H0.out HOKA.out (by have := HBIG.out h19; rw [HVAL.out]; omega))
              rcases hstop with h1 | ⟨h1, h2⟩
              · omega
              · go_wp2
                go_ret2
                exact ⟨ret_two HN.out, rfl⟩
            · rcases hstop with h1 | ⟨h1, h2⟩
              all_goals
                go_wp2
                go_loop [9, 10] (fun n i => ∃ k : Nat, k ≤ x.size ∧ i = .int .i64 k ∧ n = .int .u64 ((valN 10 (x.data.toList.take k) : Nat) : Int) ∧ ((valN 10 (x.data.toList.take k) : Nat) : Int) ≤ 18446744073709551615) (fun _ i => x.size - (intOf i).toNat)
                case atStart => exact ⟨0, by omega, rfl, by simp [valN], by simp [valN]⟩
                case round =>
                  obtain ⟨k, hk, rfl, rfl, hv⟩ := hrel
                  by_cases hlt2 : k < x.size
                  · have hb := bt_at x k hlt2
                    have HB := Lib.hid hb
                    have h255 := bt_lt x k
                    rw [← hb] at h255
                    have hd := HOKX.out k hlt2
                    rw [← hb] at hd
                    have hvt := valN_take 10 x k hlt2
                    rw [← hb] at hvt
                    have HVT := Lib.hid hvt
                    have hmore := valN_more 10 (by omega) x k hlt2
                    clear hb hvt
                    by_cases hbg : ((valN 10 (x.data.toList.take k) : Nat) : Int) ≤ 1152921504606846975
                    · have HM := Lib.hid hmore
                      clear hmore
                      have hnext : ((valN 10 (x.data.toList.take (k + 1)) : Nat) : Int) = ((valN 10 (x.data.toList.take k) : Nat) : Int) * 10 + (digV x[k].toNat : Nat) := by rw [HVT.out]; simp
                      have HNX := Lib.hid hnext
                      clear hnext hv
                      generalize valN 10 (x.data.toList.take k) = m at *
                      go_wp2_with fail
                      refine (ref_value2_any _ _ (by omega) (by omega)).mono ?_
                      rintro e w' ⟨rfl, rfl⟩
                      rw [Int.toNat_natCast]
                      generalize digV x[k].toNat = d at *
                      go_wp2
                      go_round
                      case rel => exact ⟨k + 1, by omega, by go_num, by rw [HNX.out], by rw [HNX.out]; omega⟩
                      case measure => simp [intOf]; omega
                    · have HN := Lib.hid (num_great (b := 10) (most := most) H0.out HOKA.out (by rw [HVAL.out]; omega))
                      have hbg' : 1152921504606846975 < ((valN 10 (x.data.toList.take k) : Nat) : Int) := by omega
                      clear hbg hmore hd
                      generalize valN 10 (x.data.toList.take k) = m at *
                      go_wp2
                      go_ret2
                      exact ⟨ret_two HN.out, rfl⟩
                  · have hall : x.data.toList.take k = x.data.toList := List.take_of_length_le (by rw [← ba_size]; omega)
                    rw [hall] at hv ⊢
                    clear hall
                    by_cases hneg : most < 0
                    · have HN := Lib.hid (num_great (b := 10) (most := most) H0.out HOKA.out (by rw [HVAL.out]; omega))
                      generalize valN 10 x.data.toList = m at *
                      go_wp2
                      go_ret2
                      exact ⟨ret_two HN.out, rfl⟩
                    · have hneg' : 0 ≤ most := by omega
                      clear hneg
                      by_cases hmm : ((valN 10 x.data.toList : Nat) : Int) ≤ most
                      · have HN := Lib.hid (num_fits (b := 10) (most := most) H0.out HOKA.out (by rw [HVAL.out]; exact hmm))
                        have hn := HN.out
                        rw [HVAL.out] at hn
                        have HN2 := Lib.hid hn
                        clear hn HN
                        generalize valN 10 x.data.toList = m at *
                        go_wp2
                        go_ret2
                        exact ⟨ret_two HN2.out, rfl⟩
                      · have HN := Lib.hid (num_great (b := 10) (most := most) H0.out HOKA.out (by rw [HVAL.out]; omega))
                        have hmm' : most < ((valN 10 x.data.toList : Nat) : Int) := by omega
                        clear hmm
                        generalize valN 10 x.data.toList = m at *
                        go_wp2
                        go_ret2
                        exact ⟨ret_two HN.out, rfl⟩

set_option maxRecDepth 100000 in
set_option maxHeartbeats 1000000 in
theorem ref_number_16_any (s : ByteArray) (most : Int) (w : World) (hs : s.size ≤ maxLen) (hm0 : -9223372036854775808 ≤ most) (hm1 : most ≤ 9223372036854775807) :
    Calls Try.prog 39 #[.string s, .int .i64 16, .int .i64 most] w fun e w' => e = .returned (.tuple #[.int .i64 (numV 16 s most), .int .i64 (numE 16 s most)]) ∧ w = w' := by
  unfold maxLen at hs
  by_cases h0 : s.size = 0
  · have hn := num_empty (b := 16) (most := most) h0
    rw [hn.1, hn.2]
    clear hn
    go_enter Try.func39, Try.ntmps39
    go_wp2
    go_ret2
    exact ⟨rfl, rfl⟩
  · have H0 := Lib.hid h0
    have h0' : 0 < s.size := by omega
    have h0b : ((s.size : Int) == 0) = false := by rw [beq_eq_false_iff_ne]; omega
    clear h0
    go_enter Try.func39, Try.ntmps39
    go_wp2
    go_loop [8] (fun i => ∃ k : Nat, k ≤ s.size ∧ i = .int .i64 k ∧ ∀ j, j < k → digV (bt s j) < 16) (fun i => s.size - (intOf i).toNat)
    case atStart => exact ⟨0, by omega, rfl, fun j h => by omega⟩
    case round =>
      obtain ⟨k, hk, rfl, hok⟩ := hrel
      have HOK := Lib.hid hok
      clear hok
      by_cases hlt : k < s.size
      · have hb := bt_at s k hlt
        have HB := Lib.hid hb
        have h255 := bt_lt s k
        rw [← hb] at h255
        clear hb
        go_wp2_with fail
        refine (ref_value2_any _ _ (by omega) (by omega)).mono ?_
        rintro e w' ⟨rfl, rfl⟩
        rw [Int.toNat_natCast, HB.out]
        by_cases hd : digV (bt s k) < 16
        · have HD := Lib.hid hd
          generalize hdd : digV (bt s k) = d at *
          have HDD := Lib.hid hdd
          clear hdd
          go_wp2
          go_round
          case rel =>
            refine ⟨k + 1, by omega, by go_num, fun j hj => ?_⟩
            by_cases hjk : j < k
            · exact HOK.out j hjk
            · obtain rfl : j = k := by omega
              rw [HDD.out]; exact HD.out
          case measure => simp [intOf]; omega
        · have HN := Lib.hid (num_form (b := 16) (most := most) k hlt (by omega))
          generalize digV (bt s k) = d at *
          have hd' : (16 : Int) ≤ d := by omega
          clear hd
          go_wp2
          go_ret2
          exact ⟨ret_two HN.out, rfl⟩
      · have hokA : ∀ j, j < s.size → digV (bt s j) < 16 := fun j hj => HOK.out j (by omega)
        have HOKA := Lib.hid hokA
        clear hokA HOK
        go_wp2
        go_loop [0] (fun v => ∃ (x : ByteArray) (p : List UInt8), v = .string x ∧ s.data.toList = p ++ x.data.toList ∧ (∀ c ∈ p, c.toNat = 48) ∧ 0 < x.size) (fun v => szOf v)
        case atStart => exact ⟨s, [], rfl, by simp, by simp, h0'⟩
        case round =>
          obtain ⟨x, p, rfl, hx, hpz, hx0⟩ := hrel
          have hxs : x.size ≤ s.size := by rw [ba_size, ba_size, hx]; simp
          have HX := Lib.hid hx
          have HPZ := Lib.hid hpz
          have hbx := bt_at x 0 hx0
          have HBX := Lib.hid hbx
          clear hx hpz hbx
          by_cases hgo : 1 < x.size ∧ bt x 0 = 48
          · obtain ⟨g1, g2⟩ := hgo
            have e1 : ((x[0].toNat : Int) == 48) = true := by rw [HBX.out, g2]; rfl
            have he : x.data.toList = x[0] :: (x.extract 1 x.size).data.toList := by
              rw [Lib.extract_to_end]
              have := List.drop_eq_getElem_cons (l := x.data.toList) (i := 0) (by rw [← ba_size]; exact hx0)
              exact this
            have hes : (x.extract 1 x.size).size = x.size - 1 := by rw [ba_size, Lib.extract_to_end, List.length_drop, ← ba_size]
            have HE := Lib.hid he
            have HES := Lib.hid hes
            have HG2 := Lib.hid g2
            clear he hes g2
            go_wp2
            go_round
            case rel =>
              refine ⟨_, p ++ [x[0]], rfl, by rw [HX.out, List.append_assoc, List.singleton_append, ← HE.out], fun c hc => ?_, by rw [HES.out]; omega⟩
              rcases List.mem_append.1 hc with hc | hc
              · exact HPZ.out c hc
              · rw [List.mem_singleton.1 hc, HBX.out, HG2.out]
            case measure =>
              show (x.extract 1 x.size).size < x.size
              rw [HES.out]; omega
          · have hval : valN 16 s.data.toList = valN 16 x.data.toList := by rw [HX.out]; exact valN_zero 16 _ p HPZ.out
            have hokx : ∀ j, j < x.size → digV (bt x j) < 16 := by
              intro j hj
              have hjs : p.length + j < s.size := by rw [ba_size, HX.out, List.length_append, ← ba_size]; omega
              have := HOKA.out (p.length + j) hjs
              rw [← bt_list s _ hjs] at this
              rw [← bt_list x j hj]
              simp only [HX.out] at this
              rw [List.getElem_append_right (by omega)] at this
              simpa using this
            have HVAL := Lib.hid hval
            have HOKX := Lib.hid hokx
            have hbig : 19 < x.size → 9223372036854775807 < valN 16 x.data.toList := by
              intro h
              have hb0 : bt x 0 ≠ 48 := fun e => hgo ⟨by omega, e⟩
              cases hl : x.data.toList with
              | nil => rw [ba_len hl] at hx0; simp at hx0
              | cons c r =>
                have hd0 := digV_zero (b := 16) (by omega) (hokx 0 hx0) hb0
                rw [bt_cons hl] at hd0
                exact valN_big 16 (by omega) c r hd0 (by rw [ba_len hl] at h; simp at h; omega)
            have HBIG := Lib.hid hbig
            have hstop : x.size = 1 ∨ (1 < x.size ∧ ((x[0].toNat : Int) == 48) = false) := by
              by_cases h1 : x.size = 1
              · exact .inl h1
              · refine .inr ⟨by omega, ?_⟩
                rw [HBX.out]
                have : bt x 0 ≠ 48 := fun e => hgo ⟨by omega, e⟩
                simp; omega
            clear hval hokx hbig hgo
            by_cases h19 : 19 < x.size
            · have HN := Lib.hid (num_great (b := 16) (most := most) H0.out HOKA.out (by have := HBIG.out h19; rw [HVAL.out]; omega))
              rcases hstop with h1 | ⟨h1, h2⟩
              · omega
              · go_wp2
                go_ret2
                exact ⟨ret_two HN.out, rfl⟩
            · rcases hstop with h1 | ⟨h1, h2⟩
              all_goals
                go_wp2
                go_loop [9, 10] (fun n i => ∃ k : Nat, k ≤ x.size ∧ i = .int .i64 k ∧ n = .int .u64 ((valN 16 (x.data.toList.take k) : Nat) : Int) ∧ ((valN 16 (x.data.toList.take k) : Nat) : Int) ≤ 18446744073709551615) (fun _ i => x.size - (intOf i).toNat)
                case atStart => exact ⟨0, by omega, rfl, by simp [valN], by simp [valN]⟩
                case round =>
                  obtain ⟨k, hk, rfl, rfl, hv⟩ := hrel
                  by_cases hlt2 : k < x.size
                  · have hb := bt_at x k hlt2
                    have HB := Lib.hid hb
                    have h255 := bt_lt x k
                    rw [← hb] at h255
                    have hd := HOKX.out k hlt2
                    rw [← hb] at hd
                    have hvt := valN_take 16 x k hlt2
                    rw [← hb] at hvt
                    have HVT := Lib.hid hvt
                    have hmore := valN_more 16 (by omega) x k hlt2
                    clear hb hvt
                    by_cases hbg : ((valN 16 (x.data.toList.take k) : Nat) : Int) ≤ 1152921504606846975
                    · have HM := Lib.hid hmore
                      clear hmore
                      have hnext : ((valN 16 (x.data.toList.take (k + 1)) : Nat) : Int) = ((valN 16 (x.data.toList.take k) : Nat) : Int) * 16 + (digV x[k].toNat : Nat) := by rw [HVT.out]; simp
                      have HNX := Lib.hid hnext
                      clear hnext hv
                      generalize valN 16 (x.data.toList.take k) = m at *
                      go_wp2_with fail
                      refine (ref_value2_any _ _ (by omega) (by omega)).mono ?_
                      rintro e w' ⟨rfl, rfl⟩
                      rw [Int.toNat_natCast]
                      generalize digV x[k].toNat = d at *
                      go_wp2
                      go_round
                      case rel => exact ⟨k + 1, by omega, by go_num, by rw [HNX.out], by rw [HNX.out]; omega⟩
                      case measure => simp [intOf]; omega
                    · have HN := Lib.hid (num_great (b := 16) (most := most) H0.out HOKA.out (by rw [HVAL.out]; omega))
                      have hbg' : 1152921504606846975 < ((valN 16 (x.data.toList.take k) : Nat) : Int) := by omega
                      clear hbg hmore hd
                      generalize valN 16 (x.data.toList.take k) = m at *
                      go_wp2
                      go_ret2
                      exact ⟨ret_two HN.out, rfl⟩
                  · have hall : x.data.toList.take k = x.data.toList := List.take_of_length_le (by rw [← ba_size]; omega)
                    rw [hall] at hv ⊢
                    clear hall
                    by_cases hneg : most < 0
                    · have HN := Lib.hid (num_great (b := 16) (most := most) H0.out HOKA.out (by rw [HVAL.out]; omega))
                      generalize valN 16 x.data.toList = m at *
                      go_wp2
                      go_ret2
                      exact ⟨ret_two HN.out, rfl⟩
                    · have hneg' : 0 ≤ most := by omega
                      clear hneg
                      by_cases hmm : ((valN 16 x.data.toList : Nat) : Int) ≤ most
                      · have HN := Lib.hid (num_fits (b := 16) (most := most) H0.out HOKA.out (by rw [HVAL.out]; exact hmm))
                        have hn := HN.out
                        rw [HVAL.out] at hn
                        have HN2 := Lib.hid hn
                        clear hn HN
                        generalize valN 16 x.data.toList = m at *
                        go_wp2
                        go_ret2
                        exact ⟨ret_two HN2.out, rfl⟩
                      · have HN := Lib.hid (num_great (b := 16) (most := most) H0.out HOKA.out (by rw [HVAL.out]; omega))
                        have hmm' : most < ((valN 16 x.data.toList : Nat) : Int) := by omega
                        clear hmm
                        generalize valN 16 x.data.toList = m at *
                        go_wp2
                        go_ret2
                        exact ⟨ret_two HN.out, rfl⟩
end Go.Proofs.Ytahehpgnemanmaa
