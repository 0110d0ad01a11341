/- Hosts (layer 11): the document's own functions. · Hosts (layer 11): the document's Parse, Text, Key; the examples; the laws HostParses, HostText, HostBack. -/
import Derived.Test.YtggnnaafkekihaaDoorHoe
import Derived.Deep.DeepCutAuto
import Derived.Test.YtggnnaafkekihaaDoorRta
import Derived.Test.YtggnnaafkekihaaDoorGb
namespace Go.Proofs.YtggnnaafkekihaaDoor
open Go.RowKit
set_option linter.unusedVariables false
set_option linter.unusedSimpArgs false

set_option maxHeartbeats 400000 in
theorem rhs_hex_any (n : Int) (w : World) (h0 : 0 ≤ n) (h1 : n ≤ 255) : Calls Tryd.prog 79 #[.int .u8 n] w fun e w' => e = .returned (.bool (hsHex n.toNat)) ∧ w = w' := by
  have HX := Kp.mk (show hsHex n.toNat = decide (digV n.toNat < 16) from rfl)
  generalize hd : digV n.toNat = d at *
  have HR := Kp.mk (fun w => ref_value2_any n w h0 h1)
  rw [hd] at HR
  clear hd
  go_enter Tryd.func79, Tryd.ntmps79
  go_wp2_with fail
  refine (HR.out _).mono ?_
  rintro e w1 ⟨rfl, rfl⟩
  go_wp2_with fail
  go_ret
  refine ⟨ret_bool ?_, rfl⟩
  rw [HX.out, Bool.eq_iff_iff]
  simp
  omega
theorem eq_false_of {a b : Int} (h : a ≠ b) : (a == b) = false := beq_eq_false_iff_ne.2 h
def HsNmPost (s : ByteArray) (w : World) (e : Ending) (w' : World) : Prop := ∃ k : Nat, e = .returned (.int .i64 (k : Int)) ∧ HsNm s k ∧ w = w'
theorem hsNmPost_mk {s : ByteArray} {w : World} {k : Nat} {z : Int} (h : HsNm s k) (hz : z = k) : HsNmPost s w (.returned (.int .i64 z)) w := ⟨k, by rw [hz], h, rfl⟩
theorem hsNm_cases (n : Nat) : (48 ≤ n ∧ n ≤ 57) ∨ (65 ≤ n ∧ n ≤ 90) ∨ (97 ≤ n ∧ n ≤ 122) ∨ otherB n = true := by simp [otherB]; omega
/-- What the run over the signs comes to. -/
theorem hsNm_plain {n : Nat} (h : (48 ≤ n ∧ n ≤ 57) ∨ (65 ≤ n ∧ n ≤ 90) ∨ (97 ≤ n ∧ n ≤ 122)) : hsNm n = true := by
  unfold hsNm
  generalize hsSigns.any (fun m => m == n) = b
  simp
  omega
theorem hsNm_other {n : Nat} (h : otherB n = true) : hsNm n = hsSigns.any (fun m => m == n) := by
  simp [otherB] at h
  unfold hsNm
  generalize hsSigns.any (fun m => m == n) = b
  rw [Bool.eq_iff_iff]
  simp
  omega
def sgT (n k : Nat) : Bool := (hsSigns.take k).any (fun m => m == n)
theorem sgT_zero (n : Nat) : sgT n 0 = false := rfl
theorem sgT_all (n : Nat) : sgT n 15 = hsSigns.any (fun m => m == n) := rfl
theorem hsSB_at : ∀ k, k < 15 → hsSigns[k]? = some (bt hsSB k) := by decide +kernel
theorem sgT_step (n k : Nat) (h : k < 15) : sgT n (k + 1) = (sgT n k || (bt hsSB k == n)) := by
  unfold sgT
  have := hsSB_at k h
  rw [List.take_add_one, this, List.any_append]
  simp
def hsPl (n : Nat) : Bool := (decide (48 ≤ n) && decide (n ≤ 57)) || (decide (65 ≤ n) && decide (n ≤ 90)) || (decide (97 ≤ n) && decide (n ≤ 122))
theorem hsNm_pl (n : Nat) : hsNm n = (hsPl n || hsSigns.any (fun m => m == n)) := rfl
theorem hsPl_cases (n : Nat) : (hsPl n = true ∧ 48 ≤ n ∧ n ≤ 57) ∨ (hsPl n = true ∧ 65 ≤ n ∧ n ≤ 90) ∨ (hsPl n = true ∧ 97 ≤ n ∧ n ≤ 122) ∨ (hsPl n = false ∧ n < 48) ∨ (hsPl n = false ∧ 58 ≤ n ∧ n < 65) ∨ (hsPl n = false ∧ 91 ≤ n ∧ n < 97) ∨ (hsPl n = false ∧ 123 ≤ n) := by
  unfold hsPl
  simp
  omega
set_option maxRecDepth 100000 in
set_option maxHeartbeats 8000000 in
theorem rhs_name_any (s : ByteArray) (w : World) (hs : s.size ≤ 1000000) : Calls Tryd.prog 67 #[.string s] w (HsNmPost s w) := by
  by_cases hl : 0 < s.size ∧ bt s 0 = 91
  · obtain ⟨h0, h91⟩ := hl
    have g0 : (0 : Int) < (s.size : Int) := by omega
    have b0 := bt_at s 0 h0
    have g1 : ((s[0].toNat : Int) == 91) = true := by rw [b0, h91]; rfl
    have H91 := Kp.mk h91
    clear b0 h91
    go_enter Tryd.func67, Tryd.ntmps67
    go_wp2_with fail
    go_loop [3] (fun i => ∃ n : Nat, 1 ≤ n ∧ n ≤ s.size ∧ i = .int .i64 n ∧ ∀ j, 1 ≤ j → j < n → hsLit (bt s j) = true) (fun i => s.size - (intOf i).toNat)
    case atStart => exact ⟨1, by omega, by omega, rfl, fun j h1 h2 => by omega⟩
    case round =>
      obtain ⟨n, hn1, hn2, rfl, hf⟩ := hrel
      have HF := Kp.mk hf
      clear hf
      by_cases hlt : n < s.size
      · have hb := bt_at s n hlt
        have h255 := bt_lt s n
        have q1 : (n : Int) < (s.size : Int) := by omega
        have q0 : (0 : Int) ≤ (n : Int) := by omega
        have HHX := Kp.mk (fun w => rhs_hex_any (s[n].toNat : Int) w (by omega) (by rw [hb]; omega))
        rw [Int.toNat_natCast, hb] at HHX
        have HL := Kp.mk (show hsLit (bt s n) = (hsHex (bt s n) || bt s n == 58 || bt s n == 46) from rfl)
        cases hx : hsHex (bt s n)
        · rw [hx] at HHX HL
          by_cases h58 : bt s n = 58
          · have HLT := Kp.mk (show hsLit (bt s n) = true by rw [h58]; rfl)
            have q2 : ((bt s n : Int) == 58) = true := by rw [h58]; rfl
            clear hx h58 h255
            go_wp2_with fail
            refine (HHX.out _).mono ?_
            rintro e w1 ⟨rfl, rfl⟩
            go_wp2_with fail
            go_round
            case rel => exact ⟨n + 1, by omega, by omega, by go_num, fun j h1 h2 => by
              by_cases e : j = n
              · rw [e]; exact HLT.out
              · exact HF.out j h1 (by omega)⟩
            case measure => simp [intOf]; omega
          · have q2 : ((bt s n : Int) == 58) = false := eq_false_of (by omega)
            by_cases h46 : bt s n = 46
            · have HLT := Kp.mk (show hsLit (bt s n) = true by rw [h46]; rfl)
              have q3 : ((bt s n : Int) == 46) = true := by rw [h46]; rfl
              clear hx h46 h58 h255
              go_wp2_with fail
              refine (HHX.out _).mono ?_
              rintro e w1 ⟨rfl, rfl⟩
              go_wp2_with fail
              go_round
              case rel => exact ⟨n + 1, by omega, by omega, by go_num, fun j h1 h2 => by
                by_cases e : j = n
                · rw [e]; exact HLT.out
                · exact HF.out j h1 (by omega)⟩
              case measure => simp [intOf]; omega
            · have q3 : ((bt s n : Int) == 46) = false := eq_false_of (by omega)
              have HNO := Kp.mk (show hsLit (bt s n) = false by rw [HL.out, show (bt s n == 58) = false from beq_eq_false_iff_ne.2 h58, show (bt s n == 46) = false from beq_eq_false_iff_ne.2 h46]; rfl)
              clear hx h46 h58 h255
              by_cases hn : n = 1
              · subst hn
                have HR := Kp.mk (HsNm.lit0 1 h0 H91.out (by omega) hn2 HF.out (.inr HNO.out) (.inl rfl))
                go_wp2_with fail
                refine (HHX.out _).mono ?_
                rintro e w1 ⟨rfl, rfl⟩
                go_wp2_with fail
                go_ret
                exact hsNmPost_mk HR.out rfl
              · have q4 : ((n : Int) == 1) = false := eq_false_of (by omega)
                have q5 : ((n : Int) == (s.size : Int)) = false := eq_false_of (by omega)
                by_cases h93 : bt s n = 93
                · have q6 : ((bt s n : Int) != 93) = false := by rw [h93]; rfl
                  have HR := Kp.mk (HsNm.lit n h0 H91.out (by omega) hlt HF.out h93)
                  clear h93 hn
                  go_wp2_with fail
                  refine (HHX.out _).mono ?_
                  rintro e w1 ⟨rfl, rfl⟩
                  go_wp2_with fail
                  go_ret
                  exact hsNmPost_mk HR.out (by simp)
                · have q6 : ((bt s n : Int) != 93) = true := by rw [bne_iff_ne]; omega
                  have HR := Kp.mk (HsNm.lit0 n h0 H91.out (by omega) hn2 HF.out (.inr HNO.out) (.inr (.inr h93)))
                  clear h93 hn
                  go_wp2_with fail
                  refine (HHX.out _).mono ?_
                  rintro e w1 ⟨rfl, rfl⟩
                  go_wp2_with fail
                  go_ret
                  exact hsNmPost_mk HR.out rfl
        · rw [hx] at HHX HL
          have HLT := Kp.mk (show hsLit (bt s n) = true by rw [HL.out]; rfl)
          clear hx h255
          go_wp2_with fail
          refine (HHX.out _).mono ?_
          rintro e w1 ⟨rfl, rfl⟩
          go_wp2_with fail
          go_round
          case rel => exact ⟨n + 1, by omega, by omega, by go_num, fun j h1 h2 => by
            by_cases e : j = n
            · rw [e]; exact HLT.out
            · exact HF.out j h1 (by omega)⟩
          case measure => simp [intOf]; omega
      · have hns : n = s.size := by omega
        have q1 : ¬ (n : Int) < (s.size : Int) := by omega
        have HR := Kp.mk (HsNm.lit0 n h0 H91.out (by omega) hn2 HF.out (.inl hns) (.inr (.inl hns)))
        have q5 : ((n : Int) == (s.size : Int)) = true := by rw [hns]; simp
        clear hns
        by_cases hn : n = 1
        · subst hn
          go_wp2_with fail
          go_ret
          exact hsNmPost_mk HR.out rfl
        · have q4 : ((n : Int) == 1) = false := eq_false_of (by omega)
          clear hn
          go_wp2_with fail
          go_ret
          exact hsNmPost_mk HR.out rfl
  · by_cases h0 : 0 < s.size
    · have h91 : bt s 0 ≠ 91 := fun e => hl ⟨h0, e⟩
      have g0 : (0 : Int) < (s.size : Int) := by omega
      have b0 := bt_at s 0 h0
      have g1 : ((s[0].toNat : Int) == 91) = false := by rw [b0]; exact eq_false_of (by omega)
      have H91 := Kp.mk h91
      clear b0 h91 hl
      go_enter Tryd.func67, Tryd.ntmps67
      go_wp2_with fail
      go_loop [3] (fun i => ∃ n : Nat, n ≤ s.size ∧ i = .int .i64 n ∧ hsRun (s.data.toList.take n) = some 0) (fun i => s.size - (intOf i).toNat)
      case atStart => exact ⟨0, by omega, rfl, rfl⟩
      case round =>
        obtain ⟨n, hn2, rfl, hf⟩ := hrel
        have HF := Kp.mk hf
        clear hf g1
        by_cases hlt : n < s.size
        · have hb := bt_at s n hlt
          have h255 := bt_lt s n
          have q1 : (n : Int) < (s.size : Int) := by omega
          have q0 : (0 : Int) ≤ (n : Int) := by omega
          by_cases h37 : bt s n = 37
          · have q3 : ((bt s n : Int) == 37) = true := by rw [h37]; rfl
            have H37 := Kp.mk h37
            clear h37
            by_cases h2 : n + 2 < s.size
            · have hb1 := bt_at s (n + 1) (by omega)
              have hb2 := bt_at s (n + 2) h2
              have e1 := bt_lt s (n + 1)
              have e2 := bt_lt s (n + 2)
              have f1 : ¬ (s.size : Int) ≤ (n : Int) + 2 := by omega
              have f2 : (n : Int) + 1 < (s.size : Int) := by omega
              have f3 : (n : Int) + 2 < (s.size : Int) := by omega
              have f4 : ((n : Int) + 1).toNat = n + 1 := by omega
              have f5 : ((n : Int) + 2).toNat = n + 2 := by omega
              have HH1 := Kp.mk (fun w => rhs_hex_any ((bt s (n + 1) : Nat) : Int) w (by omega) (by omega))
              have HH2 := Kp.mk (fun w => rhs_hex_any ((bt s (n + 2) : Nat) : Int) w (by omega) (by omega))
              rw [Int.toNat_natCast] at HH1 HH2
              have BAD := Kp.mk (fun h => HsNm.bad n H91.out hlt HF.out H37.out (.inr h))
              have GOOD := Kp.mk (hsRun_three h2 HF.out H37.out)
              clear e1 e2
              cases x1 : hsHex (bt s (n + 1))
              · rw [x1] at HH1
                have HR := Kp.mk (BAD.out (.inl x1))
                clear x1
                go_wp2_with fail
                refine (HH1.out _).mono ?_
                rintro e w1 ⟨rfl, rfl⟩
                go_wp2_with fail
                go_ret
                exact hsNmPost_mk HR.out rfl
              · rw [x1] at HH1
                cases x2 : hsHex (bt s (n + 2))
                · rw [x2] at HH2
                  have HR := Kp.mk (BAD.out (.inr x2))
                  clear x1 x2
                  go_wp2_with fail
                  refine (HH1.out _).mono ?_
                  rintro e w1 ⟨rfl, rfl⟩
                  go_wp2_with fail
                  refine (HH2.out _).mono ?_
                  rintro e w1 ⟨rfl, rfl⟩
                  go_wp2_with fail
                  go_ret
                  exact hsNmPost_mk HR.out rfl
                · rw [x2] at HH2
                  have HR := Kp.mk (GOOD.out x1 x2)
                  clear x1 x2
                  go_wp2_with fail
                  refine (HH1.out _).mono ?_
                  rintro e w1 ⟨rfl, rfl⟩
                  go_wp2_with fail
                  refine (HH2.out _).mono ?_
                  rintro e w1 ⟨rfl, rfl⟩
                  go_wp2_with fail
                  go_round
                  case rel => exact ⟨n + 3, by omega, by go_num, HR.out⟩
                  case measure => simp [intOf]; omega
            · have f1 : (s.size : Int) ≤ (n : Int) + 2 := by omega
              have HR := Kp.mk (HsNm.bad n H91.out hlt HF.out H37.out (.inl (by omega)))
              go_wp2_with fail
              go_ret
              exact hsNmPost_mk HR.out rfl
          · have q3 : ((bt s n : Int) == 37) = false := eq_false_of (by omega)
            have H37 := Kp.mk h37
            clear h37
            go_upto_region 15 with fail
            go_cut [4, 5] (fun u4 u5 wx => u4 = .int .u8 ((bt s n : Nat) : Int) ∧ u5 = .bool (hsPl (bt s n)) ∧ wx = w)
            case first =>
              rcases hsPl_cases (bt s n) with ⟨hp, h1, h2⟩ | ⟨hp, h1, h2⟩ | ⟨hp, h1, h2⟩ | ⟨hp, h1⟩ | ⟨hp, h1, h2⟩ | ⟨hp, h1, h2⟩ | ⟨hp, h1⟩
              all_goals
                have HP := Kp.mk hp
                clear hp
                go_wp2_with fail
                go_meet
                exact ⟨rfl, by (rw [HP.out]) <;> first | rfl | (congr 1; (rw [Bool.eq_iff_iff]) <;> simp <;> omega), rfl⟩
            case rest =>
              obtain ⟨rfl, rfl, rfl⟩ := hcut
              have HNM := Kp.mk (hsNm_pl (bt s n))
              rw [← sgT_all] at HNM
              generalize hpl : hsPl (bt s n) = pl at *
              go_wp2_with fail
              rw [hsSB_eq]
              go_loop [5, 7] (fun b i => ∃ k : Nat, k ≤ 15 ∧ i = .int .i64 k ∧ b = .bool (pl || sgT (bt s n) k)) (fun _ i => 15 - (intOf i).toNat)
              case atStart => exact ⟨0, by omega, rfl, by rw [sgT_zero, Bool.or_false]⟩
              case round =>
                obtain ⟨k, hk, rfl, rfl⟩ := hrel
                have hsz : hsSB.size = 15 := rfl
                by_cases hlk : k < 15
                · have hbk := bt_at hsSB k (by rw [hsz]; exact hlk)
                  have HST := Kp.mk (sgT_step (bt s n) k hlk)
                  cases hx : (pl || sgT (bt s n) k)
                  · have HS2 := Kp.mk (show (pl || sgT (bt s n) (k + 1)) = (bt hsSB k == bt s n) by rw [HST.out, ← Bool.or_assoc, hx, Bool.false_or])
                    by_cases hy : bt hsSB k = bt s n
                    · have y2 : ((bt hsSB k : Int) == (bt s n : Int)) = true := by rw [hy]; simp
                      have HS3 := Kp.mk (HS2.out.trans (beq_iff_eq.2 hy))
                      clear hx hy
                      go_wp2_with fail
                      go_round
                      case rel => exact ⟨k + 1, by omega, by go_num, by rw [HS3.out]⟩
                      case measure => simp [intOf]; omega
                    · have y2 : ((bt hsSB k : Int) == (bt s n : Int)) = false := eq_false_of (by omega)
                      have HS3 := Kp.mk (HS2.out.trans (beq_eq_false_iff_ne.2 hy))
                      clear hx hy
                      go_wp2_with fail
                      go_round
                      case rel => exact ⟨k + 1, by omega, by go_num, by rw [HS3.out]⟩
                      case measure => simp [intOf]; omega
                  · have HS3 := Kp.mk (show (pl || sgT (bt s n) (k + 1)) = true by rw [HST.out, ← Bool.or_assoc, hx, Bool.true_or])
                    clear hx
                    go_wp2_with fail
                    go_round
                    case rel => exact ⟨k + 1, by omega, by go_num, by rw [HS3.out]⟩
                    case measure => simp [intOf]; omega
                · obtain rfl : k = 15 := by omega
                  rw [← HNM.out]
                  cases hx : hsNm (bt s n)
                  · have HR := Kp.mk (HsNm.stop n H91.out hlt HF.out H37.out hx)
                    clear hx
                    go_wp2_with fail
                    go_ret
                    exact hsNmPost_mk HR.out rfl
                  · have HR := Kp.mk (hsRun_one hlt HF.out H37.out hx)
                    clear hx
                    go_wp2_with fail
                    go_round
                    case rel => exact ⟨n + 1, by omega, by go_num, HR.out⟩
                    case measure => simp [intOf]; omega
        · have q1 : ¬ (n : Int) < (s.size : Int) := by omega
          have hns : n = s.size := by omega
          have HR := Kp.mk (HsNm.whole (.inr H91.out) (by have := HF.out; rwa [List.take_of_length_le (by rw [← ba_size]; omega)] at this))
          have HNS := Kp.mk hns
          clear hns
          go_wp2_with fail
          go_ret
          exact hsNmPost_mk HR.out (by rw [HNS.out])
    · obtain rfl := hs_emp h0
      have HR := Kp.mk (HsNm.whole (s := ⟨#[]⟩) (.inl rfl) rfl)
      clear hl h0
      go_enter Tryd.func67, Tryd.ntmps67
      go_wp2_with fail
      go_loop [3] (fun i => i = .int .i64 0) (fun _ => 0)
      case atStart => rfl
      case round =>
        subst hrel
        go_wp2_with fail
        go_ret
        exact hsNmPost_mk HR.out rfl
end Go.Proofs.YtggnnaafkekihaaDoor
namespace Go.Proofs.YtggnnaafkekihaaDoor
open Go.RowKit
set_option linter.unusedVariables false
set_option linter.unusedSimpArgs false

set_option maxRecDepth 100000 in
set_option maxHeartbeats 2000000 in
theorem rhs_parse_any (s : ByteArray) (w : World) (hs : s.size ≤ 1000000) : Calls Tryd.prog 53 #[.string s] w fun e w' => e = .returned (hsRet s) ∧ Below w.heap.size w w' := by
  by_cases h0 : 0 < s.size
  · obtain ⟨n1, n2⟩ := hs_nemp h0
    go_enter Tryd.func53, Tryd.ntmps53
    go_wp2_with fail
    refine (rhs_name_any s _ hs).mono ?_
    rintro e w1 ⟨k, rfl, hk, rfl⟩
    rcases host_eq hk h0 with ⟨a, b, c⟩ | ⟨a, b, c1, c2, c3, d, f⟩ | ⟨a, b, c, d⟩
    · have HR := Kp.mk (hsRet_whole h0 a b)
      have q1 : ((k : Int) == 0) = false := eq_false_of (by omega)
      have q2 : ((k : Int) == (s.size : Int)) = true := by rw [c]; simp
      clear a b c hk
      go_wp2_with fail
      go_ret3
      exact ⟨by rw [HR.out]; rfl, Below.refl _ _⟩
    · have hnm : hsName s = s.extract 0 k := by unfold hsName; rw [if_pos a, b, Int.toNat_natCast]; rfl
      have hnu : hsNum s = s.extract (k + 1) s.size := by unfold hsNum; rw [if_pos a, b, Int.toNat_natCast]; rfl
      have hd : hsDigs (hsNum s) = true := by rw [hnu]; exact d
      have hn : hsNamed (hsName s) = true := by rw [hnm]; exact f
      have HE := Kp.mk (hsE_num h0 a hd hn)
      have HP := Kp.mk (fun h => hsRet_port h0 a hd hn h)
      have HO := Kp.mk (numE_digs (m := 65535) hd)
      rw [hnu] at HE HP HO
      rw [hnm] at HP
      have q1 : ((k : Int) == 0) = false := eq_false_of (by omega)
      have q2 : ((k : Int) == (s.size : Int)) = false := eq_false_of (by omega)
      have hb := bt_at s k c2
      have q3 : ((bt s k : Int) != 58) = false := by rw [c3]; rfl
      have q4 : (0 : Int) ≤ (k : Int) := by omega
      have q5 : (k : Int) < (s.size : Int) := by omega
      have q6 : (k : Int) + 1 ≤ (s.size : Int) := by omega
      have q7 : (0 : Int) ≤ (k : Int) + 1 := by omega
      have q8 : ((k : Int) + 1).toNat = k + 1 := by omega
      have q9 : (k : Int) ≤ (s.size : Int) := by omega
      have hz : (s.extract (k + 1) s.size).size ≤ 1000000 := by rw [ByteArray.size_extract]; omega
      clear a b c1 c3 d f hk hnm hnu hd hn
      go_wp2_with fail
      refine (ref_number_10_any (s.extract (k + 1) s.size) 65535 _ (by unfold maxLen; omega) (by decide) (by decide)).mono ?_
      rintro e w2 ⟨rfl, rfl⟩
      rcases HO.out with h | h
      · have HR := Kp.mk (HP.out h)
        rw [h]
        clear h
        go_wp2_with fail
        go_ret3
        exact ⟨by rw [HR.out]; rfl, Below.refl _ _⟩
      · have HR := Kp.mk (hsRet_bad (HE.out.trans h) (by decide))
        rw [h]
        clear h
        go_wp2_with fail
        go_ret3
        exact ⟨by rw [HR.out]; rfl, Below.refl _ _⟩
    · have HE : hsE s = 3 := by
        rcases a with ⟨a1, a2⟩ | a
        · exact hsE_digs h0 a1 a2
        · exact hsE_noname h0 a
      have HR := Kp.mk (hsRet_bad HE (by decide))
      clear a HE
      by_cases hk0 : k = 0
      · subst hk0
        go_wp2_with fail
        go_ret3
        exact ⟨by rw [HR.out]; rfl, Below.refl _ _⟩
      · have q1 : ((k : Int) == 0) = false := eq_false_of (by omega)
        have q2 : ((k : Int) == (s.size : Int)) = false := eq_false_of (by omega)
        have hlt : k < s.size := by omega
        have hb := bt_at s k hlt
        have q4 : (0 : Int) ≤ (k : Int) := by omega
        have q5 : (k : Int) < (s.size : Int) := by omega
        rcases d with d | d | ⟨d1, d2⟩
        · exact absurd d hk0
        · have q3 : ((bt s k : Int) != 58) = true := by rw [bne_iff_ne]; omega
          clear hk c d
          go_wp2_with fail
          go_ret3
          exact ⟨by rw [HR.out]; rfl, Below.refl _ _⟩
        · have q3 : ((bt s k : Int) != 58) = false := by rw [d1]; rfl
          have q6 : (k : Int) + 1 ≤ (s.size : Int) := by omega
          have q7 : (0 : Int) ≤ (k : Int) + 1 := by omega
          have q8 : ((k : Int) + 1).toNat = k + 1 := by omega
          have HO := Kp.mk (numE_no (m := 65535) (show hsDigs (s.extract (k + 1) s.size) = false from d2))
          have hz : (s.extract (k + 1) s.size).size ≤ 1000000 := by rw [ByteArray.size_extract]; omega
          clear hk c d1 d2
          go_wp2_with fail
          refine (ref_number_10_any (s.extract (k + 1) s.size) 65535 _ (by unfold maxLen; omega) (by decide) (by decide)).mono ?_
          rintro e w2 ⟨rfl, rfl⟩
          rcases HO.out with h | h
          all_goals
            rw [h]
            clear h
            go_wp2_with fail
            go_ret3
            exact ⟨by rw [HR.out]; rfl, Below.refl _ _⟩
  · obtain rfl := hs_emp h0
    have HR := Kp.mk (hsRet_bad hsE_empty (by decide))
    go_enter Tryd.func53, Tryd.ntmps53
    go_wp2_with fail
    go_ret3
    exact ⟨by rw [HR.out]; rfl, Below.refl _ _⟩
set_option maxRecDepth 100000 in
set_option maxHeartbeats 1000000 in
theorem rhs_text_any (nm : ByteArray) (p : Int) (w : World) (hn : nm.size ≤ 1000000) (h0 : -9223372036854775808 ≤ p) (h1 : p ≤ 9223372036854775807) :
    Calls Tryd.prog 54 #[.string nm, .int .i64 p] w fun e w' => e = .returned (.string (hsTxt nm p)) ∧ Below w.heap.size w w' := by
  by_cases h : p = 80
  · subst h
    have HT := Kp.mk (show hsTxt nm 80 = lowB nm by unfold hsTxt; rw [if_pos rfl])
    go_enter Tryd.func54, Tryd.ntmps54
    go_wp2_with fail
    refine (ref_lower_any nm _ (by omega)).mono ?_
    rintro e w1 ⟨rfl, hb⟩
    go_wp2_with fail
    go_ret
    exact ⟨by rw [HT.out]; rfl, hb⟩
  · have q : (p != 80) = true := bne_iff_ne.2 h
    have HT := Kp.mk (show hsTxt nm p = lowB nm ++ ⟨#[58]⟩ ++ ofL (textL p) by unfold hsTxt; rw [if_neg h, app3]; rfl)
    have z1 : (lowB nm).size ≤ 1000000 := by rw [lowB_size]; exact hn
    have z2 : (ofL (textL p)).size ≤ 21 := by rw [ofL_size]; exact textL_len p
    have z3 : (⟨#[58]⟩ : ByteArray).size ≤ 1 := by decide
    clear h
    obtain ⟨L, hL⟩ : ∃ L, lowB nm = L := ⟨_, rfl⟩
    obtain ⟨T, hT⟩ : ∃ T, ofL (textL p) = T := ⟨_, rfl⟩
    have HLE := Kp.mk hL
    have HTE := Kp.mk hT
    rw [hL, hT] at HT
    rw [hL] at z1
    rw [hT] at z2
    clear hL hT
    have z4 : (L ++ ⟨#[58]⟩).size ≤ 1000001 := by rw [ByteArray.size_append]; omega
    go_enter Tryd.func54, Tryd.ntmps54
    go_wp2_with fail
    refine (ref_lower_any nm _ (by omega)).mono ?_
    rintro e w1 ⟨rfl, hb⟩
    rw [HLE.out]
    have HB := Kp.mk hb
    clear hb
    go_wp2_with fail
    refine (rtext_any p _ h0 h1).mono ?_
    rintro e w2 ⟨rfl, hb⟩
    rw [HTE.out]
    have HB2 := Kp.mk (HB.out.trans (hb.mono HB.out.size))
    clear hb
    go_wp2_with fail
    go_ret
    exact ⟨by rw [HT.out]; rfl, HB2.out⟩
set_option maxRecDepth 100000 in
set_option maxHeartbeats 1000000 in
theorem rhs_key_any (s : ByteArray) (w : World) (hs : s.size ≤ 1000000) : Calls Tryd.prog 37 #[.string s] w fun e w' => e = .returned (hsKR s) ∧ Below w.heap.size w w' := by
  have HD := Kp.mk (show hsRet s = .tuple #[.string (hsN s), .int .i64 (hsP s), .int .i64 (hsE s)] from rfl)
  have HK := Kp.mk (show hsKR s = .tuple #[.string (if hsE s = 0 then hsTxt (hsN s) (hsP s) else ⟨#[]⟩), .bool (hsE s == 0)] from rfl)
  have hp := hsP_range s
  have hz := hsN_size s
  generalize hsN s = N at *
  generalize hsP s = p at *
  generalize hsE s = E at *
  go_enter Tryd.func37, Tryd.ntmps37
  go_wp2_with fail
  refine (rhs_parse_any s _ hs).mono ?_
  rintro e w1 ⟨rfl, hb⟩
  rw [HD.out]
  have HB := Kp.mk hb
  clear hb
  by_cases hE : E = 0
  · subst hE
    rw [if_pos rfl] at HK
    go_wp2_with fail
    refine (rhs_text_any N p _ (by omega) (by omega) (by omega)).mono ?_
    rintro e w2 ⟨rfl, hb⟩
    have HB2 := Kp.mk (HB.out.trans (hb.mono HB.out.size))
    clear hb
    go_wp2_with fail
    go_ret2
    exact ⟨by rw [HK.out]; rfl, HB2.out⟩
  · have q : (E != 0) = true := bne_iff_ne.2 hE
    rw [if_neg hE, show (E == 0) = false from beq_eq_false_iff_ne.2 hE] at HK
    clear hE
    go_wp2_with fail
    go_ret2
    exact ⟨by rw [HK.out]; rfl, HB.out⟩
/-! ### The examples -/
def exH1 : ByteArray := ⟨#[69, 120, 97, 109, 112, 108, 101, 46, 67, 79, 77, 58, 56, 48]⟩
def exH2 : ByteArray := ⟨#[91, 58, 58, 49, 93, 58, 56, 48, 56, 48]⟩
theorem exH1_key : hsKR exH1 = .tuple #[.string ⟨#[101, 120, 97, 109, 112, 108, 101, 46, 99, 111, 109]⟩, .bool true] := by
  have h1 : hsK exH1 = ⟨#[101, 120, 97, 109, 112, 108, 101, 46, 99, 111, 109]⟩ := by decide +kernel
  have h2 : (hsE exH1 == 0) = true := by decide +kernel
  unfold hsKR
  rw [h1, h2]
theorem exH2_parse : hsRet exH2 = .tuple #[.string ⟨#[91, 58, 58, 49, 93]⟩, .int .i64 8080, .int .i64 0] := by
  have h1 : hsN exH2 = ⟨#[91, 58, 58, 49, 93]⟩ := by decide +kernel
  have h2 : hsE exH2 = 0 := by decide +kernel
  have h3 : hsP exH2 = 8080 := by decide +kernel
  unfold hsRet
  rw [h1, h2, h3]
theorem exH3_text : hsTxt ⟨#[65]⟩ 81 = ⟨#[97, 58, 56, 49]⟩ := by decide +kernel
end Go.Proofs.YtggnnaafkekihaaDoor
