/- Layer 1: the walk of the law OctetKeeps. -/
import Derived.Test.YtfnikncnpbgomaaLaw1
import Derived.Deep.DeepCutAuto
namespace Go.Proofs.Ytfnikncnpbgomaa
open Go.RowKit
set_option linter.unusedVariables false
set_option linter.unusedSimpArgs false

theorem lowN_lowN (n : Nat) : lowN (lowN n) = lowN n := by
  by_cases h : 65 ≤ n ∧ n ≤ 90
  · have e : lowN n = n + 32 := by unfold lowN; rw [if_pos h]
    rw [e, lowN_out (by omega)]
  · have e : lowN n = n := by unfold lowN; rw [if_neg h]
    rw [e, e]
theorem lowC_lowC (c : UInt8) : lowC (lowC c) = lowC c := by
  apply UInt8.toNat_inj.1
  rw [lowC_toNat, lowC_toNat, lowN_lowN]
theorem lowB_lowB (s : ByteArray) : lowB (lowB s) = lowB s := by
  unfold lowB
  congr 2
  simp [lowL, lowC_lowC]
theorem lowB_size (s : ByteArray) : (lowB s).size = s.size := by rw [ba_size, ba_size]; simp [lowB, lowL]
theorem trimB_trimB (s : ByteArray) : trimB (trimB s) = trimB s := by
  unfold trimB
  congr 2
  simp [trimL_trimL]
theorem trimB_size (s : ByteArray) : (trimB s).size ≤ s.size := by
  rw [ba_size, ba_size]
  simp only [trimB]
  exact trimL_length _
theorem trimB_around (s : ByteArray) : trimB (⟨#[32, 9]⟩ ++ s ++ ⟨#[9, 32]⟩) = trimB s := by
  unfold trimB
  congr 2
  have := trimL_around s.data.toList [32, 9] [9, 32] (by decide) (by decide)
  rw [← this]
  simp
theorem foldB_low (a : ByteArray) : foldB a (lowB a) = true := by simp [foldB, lowB_lowB]
theorem foldB_comm (a b : ByteArray) : foldB a b = foldB b a := by
  unfold foldB
  rw [Bool.eq_iff_iff]
  simp
  exact ⟨Eq.symm, Eq.symm⟩
theorem foldB_trans {a b c : ByteArray} (h1 : foldB a b = true) (h2 : foldB b c = true) : foldB a c = true := by
  simp [foldB] at *
  rw [h1, h2]
theorem trimB_token {a : ByteArray} (h : tokenB a = true) : trimB a = a ∧ visibleB a = true ∧ allB valueB a = true := by
  simp only [tokenB, Bool.and_eq_true] at h
  obtain ⟨h0, h⟩ := h
  have hall : ∀ c ∈ a.data.toList, tcharB c.toNat = true := by
    unfold allB at h
    rw [List.all_eq_true] at h
    exact h
  have hlo : ∀ c ∈ a.data.toList, 33 ≤ c.toNat ∧ c.toNat ≤ 126 := fun c hc => tchar_low _ c.toNat_lt (hall c hc)
  refine ⟨?_, ?_, ?_⟩
  · refine (ba_eq a _ ?_).symm
    have ht : Tidy a.data.toList := by
      rcases List.eq_nil_or_concat a.data.toList with e | ⟨r, c, e⟩
      · exact .inl e
      · right
        rw [List.concat_eq_append] at e
        refine ⟨?_, r, c, e, ?_⟩
        · cases hx : a.data.toList with
          | nil => rw [hx] at e; simp at e
          | cons d m => exact ⟨d, m, rfl, by have := hlo d (by rw [hx]; simp); simp [blankC, blankN]; omega⟩
        · have := hlo c (by rw [e]; simp); simp [blankC, blankN]; omega
    exact (trimL_tidy _ ht).symm
  · simp only [visibleB, h0, Bool.true_and, allB, List.all_eq_true]
    intro c hc
    have := hlo c hc
    simp [visB, this]
  · simp only [allB, List.all_eq_true]
    intro c hc
    have := hlo c hc
    simp [valueB]; omega
theorem trimB_ends (s : ByteArray) (h : 0 < (trimB s).size) : blankN (bt (trimB s) 0) = false ∧ blankN (bt (trimB s) ((trimB s).size - 1)) = false := by
  obtain ⟨p, q, e, hp, hq, ht⟩ := trimL_part s.data.toList
  have hd : (trimB s).data.toList = trimL s.data.toList := by simp [trimB]
  rcases ht with ht | ⟨⟨c, r, h1, h2⟩, r', c', h3, h4⟩
  · rw [ba_len hd, ht] at h; simp at h
  · exact ⟨by rw [bt_cons (hd.trans h1)]; exact h2, by rw [bt_snoc (hd.trans h3)]; exact h4⟩

set_option maxRecDepth 100000 in
set_option maxHeartbeats 1600000 in
theorem keeps_walk (a0 b0 c0 : ByteArray) (w : World) (wa : a0.size ≤ maxLen) (wb : b0.size ≤ maxLen) (wc0 : c0.size ≤ maxLen) :
    Calls Try.prog 5 #[.string a0, .string b0, .string c0] w fun e w' => e = .returned (.bool true) ∧ Below w.heap.size w w' := by
  unfold maxLen at wa wb wc0
  have ha := extract_le a0 3000
  have hb := extract_le b0 3000
  have hc := extract_le c0 3000
  have HA := Lib.hid ha
  have HB := Lib.hid hb
  have HC := Lib.hid hc
  clear ha hb hc
  go_enter Try.func5, Try.ntmps5
  go_upto_region 1 with fail
  go_cut [0, 1, 2] (fun s0 s1 s2 wx => ∃ a b c : ByteArray, s0 = .string a ∧ s1 = .string b ∧ s2 = .string c ∧ a.size ≤ 3000 ∧ b.size ≤ 3000 ∧ c.size ≤ 3000 ∧ Below w.heap.size w wx)
  case first =>
    by_cases h1 : a0.size ≤ 3000 <;> by_cases h2 : b0.size ≤ 3000 <;> by_cases h3 : c0.size ≤ 3000
    all_goals
      go_quiet (fail)
      go_wp2_with fail
      go_meet
      exact ⟨_, _, _, rfl, rfl, rfl, by first | exact HA.out | exact h1, by first | exact HB.out | exact h2, by first | exact HC.out | exact h3, below_drewN _ _⟩
  case rest =>
    obtain ⟨a, b, c, rfl, rfl, rfl, ha, hb, hc, hbel⟩ := hcut
    clear HA HB HC wa wb wc0
    have hll := lowB_lowB a
    have hls := lowB_size a
    have HLL := Lib.hid hll
    have HLS := Lib.hid hls
    clear hll hls
    go_upto_region 3 with (first
      | (go_at_call 17; refine (oct_lower_any _ _ (by omega)).mono ?_; rintro e w1 ⟨rfl, hb1⟩)
      | (go_at_call 20; refine (oct_trim_any _ _ (by unfold maxLen; omega)).mono ?_; rintro e w2 ⟨rfl, hb2⟩))
    have hbel2 := below_thn (below_thn hbel hb1) hb2
    clear hbel hb1 hb2
    go_cut [70] (fun s wx => s = .bool false ∧ Below w.heap.size w wx)
    case first =>
      have hsz : ((a.size : Int) != (a.size : Int)) = false := by simp
      have hla : (lowB a).size ≤ 3000 := by rw [HLS.out]; exact ha
      have h3 : (foldB a b = false) ∨ (foldB a b = true ∧ foldB b c = false) ∨ (foldB a b = true ∧ foldB b c = true ∧ foldB a c = true) := by
        cases h1 : foldB a b
        · exact .inl rfl
        · cases h2 : foldB b c
          · exact .inr (.inl ⟨rfl, rfl⟩)
          · exact .inr (.inr ⟨rfl, rfl, foldB_trans h1 h2⟩)
      have hfl := foldB_low a
      have hcomm : foldB b a = foldB a b := foldB_comm b a
      have HFL := Lib.hid hfl
      have HCM := Lib.hid hcomm
      clear hfl hcomm
      go_wp2_with fail
      refine (oct_lower_any _ _ (by omega)).mono ?_
      rintro e v1 ⟨rfl, hb1⟩
      rw [HLL.out]
      have HS2 := HLS.out
      have hlen : (((lowB a).size : Int) != (a.size : Int)) = false := by rw [HS2]; simp
      clear HS2
      go_wp2_with fail
      refine (oct_fold_any _ _ _ (by omega) (by omega)).mono ?_
      rintro e v2 ⟨rfl, hb2⟩
      rw [HFL.out]
      go_wp2_with fail
      refine (oct_fold_any _ _ _ (by omega) (by omega)).mono ?_
      rintro e v3 ⟨rfl, hb3⟩
      go_wp2_with fail
      refine (oct_fold_any _ _ _ (by omega) (by omega)).mono ?_
      rintro e v4 ⟨rfl, hb4⟩
      rw [HCM.out]
      have hb14 := below_thn (below_thn (below_thn (below_thn hbel2 hb1) hb2) hb3) hb4
      clear hb1 hb2 hb3 hb4 hbel2
      have H3 := Lib.hid h3
      clear h3
      go_wp2_with fail
      refine (oct_fold_any _ _ _ (by omega) (by omega)).mono ?_
      rintro e v5 ⟨rfl, hb5⟩
      rcases H3.out with e1 | ⟨e1, e2⟩ | ⟨e1, e2, e3⟩
      · rw [e1]
        clear e1
        go_wp2_with fail
        go_meet
        exact ⟨rfl, below_thn hb14 hb5⟩
      · rw [e1]
        have E2 := Lib.hid e2
        clear e1 e2
        go_wp2_with fail
        refine (oct_fold_any _ _ _ (by omega) (by omega)).mono ?_
        rintro e v6 ⟨rfl, hb6⟩
        rw [E2.out]
        go_wp2_with fail
        go_meet
        exact ⟨rfl, below_thn (below_thn hb14 hb5) hb6⟩
      · rw [e1]
        have E2 := Lib.hid e2
        have E3 := Lib.hid e3
        clear e1 e2 e3
        go_wp2_with fail
        refine (oct_fold_any _ _ _ (by omega) (by omega)).mono ?_
        rintro e v6 ⟨rfl, hb6⟩
        rw [E2.out]
        go_wp2_with fail
        refine (oct_fold_any _ _ _ (by omega) (by omega)).mono ?_
        rintro e v7 ⟨rfl, hb7⟩
        rw [E3.out]
        go_wp2_with fail
        go_meet
        exact ⟨rfl, below_thn (below_thn (below_thn hb14 hb5) hb6) hb7⟩
    case rest =>
      obtain ⟨rfl, hbel3⟩ := hcut
      have htt := trimB_trimB a
      have hta := trimB_around a
      have hts := trimB_size a
      have HTT := Lib.hid htt
      have HTA := Lib.hid hta
      clear htt hta hbel2
      go_upto_region 5 with fail
      go_cut [82] (fun s wx => s = .bool false ∧ Below w.heap.size w wx)
      case first =>
        go_wp2_with fail
        refine (oct_trim_any _ _ (by unfold maxLen; omega)).mono ?_
        rintro e v1 ⟨rfl, hb1⟩
        rw [HTT.out]
        go_wp2_with fail
        refine (oct_trim_any _ _ ?_).mono ?_
        · rw [ba_size]; simp [maxLen]; omega
        · rintro e v2 ⟨rfl, hb2⟩
          rw [HTA.out]
          go_wp2_with fail
          go_meet
          exact ⟨rfl, below_thn (below_thn hbel3 hb1) hb2⟩
      case rest =>
        obtain ⟨rfl, hbel4⟩ := hcut
        clear hbel3
        go_upto_region 8 with fail
        go_cut [110] (fun s wx => s = .bool false ∧ Below w.heap.size w wx)
        case first =>
          by_cases hn : 0 < (trimB a).size
          · obtain ⟨g1, g2⟩ := trimB_ends a hn
            have b1 := bt_at (trimB a) 0 hn
            have b2 := bt_at (trimB a) ((trimB a).size - 1) (by omega)
            rw [← b1] at g1
            rw [← b2] at g2
            clear b1 b2
            have e1 : (((trimB a)[0].toNat : Int) == 32) = false := by simp [blankN] at g1; simp; omega
            have e2 : (((trimB a)[0].toNat : Int) == 9) = false := by simp [blankN] at g1; simp; omega
            have e3 : (((trimB a)[(trimB a).size - 1].toNat : Int) == 32) = false := by simp [blankN] at g2; simp; omega
            have e4 : (((trimB a)[(trimB a).size - 1].toNat : Int) == 9) = false := by simp [blankN] at g2; simp; omega
            clear g1 g2
            go_wp2_with fail
            go_meet
            exact ⟨rfl, hbel4⟩
          · go_wp2_with fail
            go_meet
            exact ⟨rfl, hbel4⟩
        case rest =>
          obtain ⟨rfl, hbel5⟩ := hcut
          clear hbel4
          go_upto_region 10 with fail
          go_cut [127] (fun s wx => s = .bool false ∧ Below w.heap.size w wx)
          case first =>
            go_wp2_with fail
            refine (oct_token_any _ _ (by unfold maxLen; omega)).mono ?_
            rintro e v1 ⟨rfl, hb1⟩
            have hb2 := below_thn hbel5 hb1
            clear hbel5 hb1
            cases htk : tokenB a
            · clear htk
              go_wp2_with fail
              go_meet
              exact ⟨rfl, hb2⟩
            · obtain ⟨g1, g2, g3⟩ := trimB_token htk
              have G1 := Lib.hid g1
              have G2 := Lib.hid g2
              have G3 := Lib.hid g3
              clear g1 g2 g3 htk
              have q1 : ((trimB a).toList == a.toList) = true := by rw [G1.out]; simp
              have q2 : ((trimB a).toList != a.toList) = false := by rw [G1.out]; simp
              go_wp2_with fail
              refine (oct_visible_any _ _ (by unfold maxLen; omega)).mono ?_
              rintro e v2 ⟨rfl, hb3⟩
              rw [G2.out]
              go_wp2_with fail
              refine (oct_value_any _ _ (by unfold maxLen; omega)).mono ?_
              rintro e v3 ⟨rfl, hb4⟩
              rw [G3.out]
              go_wp2_with fail
              go_meet
              exact ⟨rfl, below_thn (below_thn hb2 hb3) hb4⟩
          case rest =>
            obtain ⟨rfl, hbel6⟩ := hcut
            clear hbel5
            go_wp2_with fail
            refine (lives1_any _).mono ?_
            rintro e v1 ⟨rfl, hb1⟩
            go_wp2_with fail
            go_ret
            exact ⟨rfl, below_thn hbel6 hb1⟩
end Go.Proofs.Ytfnikncnpbgomaa
