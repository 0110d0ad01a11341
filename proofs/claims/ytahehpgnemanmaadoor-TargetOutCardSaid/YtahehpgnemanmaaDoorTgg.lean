/- Targets (layer 12): the examples, the laws TargetParses, TargetOut, TargetBack. -/
import Derived.Test.YtahehpgnemanmaaDoorTgf
import Derived.Test.YtahehpgnemanmaaDoorQs
import Derived.Deep.DeepCutAuto
namespace Go.Proofs.YtahehpgnemanmaaDoor
open Go.RowKit
set_option linter.unusedVariables false
set_option linter.unusedSimpArgs false

theorem TgR.ext {r : TgR} {e fm : Int} {au pa : ByteArray} (h1 : r.e = e) (h2 : r.fm = fm) (h3 : r.au = au) (h4 : r.pa = pa) : r = ⟨e, fm, au, pa⟩ := by cases r; simp at *; exact ⟨h1, h2, h3, h4⟩
def tgX1 : ByteArray := ⟨#[104, 116, 116, 112, 58, 47, 47, 97, 46, 98, 47, 99, 63, 100]⟩
def tgGet : ByteArray := ⟨#[71, 69, 84]⟩
def tgAb : ByteArray := ⟨#[97, 46, 98]⟩
def tgCd : ByteArray := ⟨#[47, 99, 63, 100]⟩
theorem tgX1_r : tgR tgGet tgX1 = ⟨0, 2, tgAb, tgCd⟩ := TgR.ext (by decide +kernel) (by decide +kernel) (by decide +kernel) (by decide +kernel)
theorem tgX1_o : tgOut tgGet 2 tgAb tgCd = tgCd := by decide +kernel
theorem tgX2_o : tgOut tgOpt 2 tgAb ⟨#[]⟩ = ⟨#[42]⟩ := by decide +kernel
theorem tgAb_z : tgAb.toList = [97, 46, 98] := by decide +kernel
theorem tgCd_z : tgCd.toList = [47, 99, 63, 100] := by decide +kernel
set_option maxRecDepth 100000 in
set_option maxHeartbeats 2000000 in
theorem lives12_any (w : World) : Calls Tryd.prog 10 #[] w fun e w' => e = .returned (.bool true) ∧ Below w.heap.size w w' := by
  have P1 := Kp.mk (fun w => tg_parse_any tgGet tgX1 w (by decide) (by decide))
  rw [tgX1_r] at P1
  unfold RetTg at P1
  dsimp only at P1
  have P2 := Kp.mk (fun w => tg_out_any tgGet 2 tgAb tgCd w (by decide) (by decide))
  rw [tgX1_o] at P2
  have P3 := Kp.mk (fun w => tg_out_any tgOpt 2 tgAb ⟨#[]⟩ w (by decide) (by decide))
  rw [tgX2_o] at P3
  have z1 := tgAb_z
  have z2 := tgCd_z
  have z3 := tgStar_z
  go_enter Tryd.func10, Tryd.ntmps10
  go_wp2_with fail
  refine (P1.out _).mono ?_
  rintro e w1 ⟨rfl, hb⟩
  have HB1 := Kp.mk hb
  have R1 := Kp.mk (Bl.new w1 23 #[.int .i64 2, .string tgAb, .string tgCd])
  have HA1 := Kp.mk (HB1.out.alloc HB1.out.size (.cells #[.int .i64 2, .string tgAb, .string tgCd] 23))
  clear hb
  go_wp2_with fail
  refine (P2.out _).mono ?_
  rintro e w2 ⟨rfl, hb⟩
  have HB2 := Kp.mk (HA1.out.trans (hb.mono HA1.out.size))
  clear hb
  go_wp2_with fail
  refine (P3.out _).mono ?_
  rintro e w3 ⟨rfl, hb⟩
  have HB3 := Kp.mk (HB2.out.trans (hb.mono HB2.out.size))
  clear hb
  go_wp2_with fail
  go_ret
  exact ⟨rfl, HB3.out⟩
/-! ### The laws -/
set_option maxRecDepth 100000 in
set_option maxHeartbeats 4000000 in
theorem tgparses_walk (m0 s0 : ByteArray) (w : World) (hm : m0.size ≤ maxLen) (hs : s0.size ≤ maxLen) :
    Calls Tryd.prog 3 #[.string m0, .string s0] w fun e w' => e = .returned (.bool true) ∧ Below w.heap.size w w' := by
  unfold maxLen at hm hs
  have ha := extract_le m0 60
  have hb := extract_le s0 1000
  have HA := Kp.mk ha
  have HBX := Kp.mk hb
  clear ha hb
  go_enter Tryd.func3, Tryd.ntmps3
  go_upto_region 1 with fail
  go_cut [0, 1] (fun u0 u1 wx => ∃ m s : ByteArray, u0 = .string m ∧ u1 = .string s ∧ m.size ≤ 60 ∧ s.size ≤ 1000 ∧ Below w.heap.size w wx)
  case first =>
    go_quiet (fail)
    go_wp2_with fail
    go_meet
    exact ⟨_, _, rfl, rfl, by rw [ByteArray.size_extract]; omega, by rw [ByteArray.size_extract]; omega, below_drewN _ _⟩
  case rest =>
    obtain ⟨m, s, rfl, rfl, h1, h2, hbel⟩ := hcut
    have HB0 := Kp.mk hbel
    have P1 := Kp.mk (fun w => tg_parse_any m s w (by omega) (by omega))
    have P2 := Kp.mk (fun w => rtg_parse_any m s w (by omega) (by omega))
    clear HA HBX hbel hs hm
    unfold RetTg at P1 P2
    generalize tgR m s = r at *
    obtain ⟨E, fm, au, pa⟩ := r
    dsimp only at P1 P2
    go_wp2_with fail
    refine (P1.out _).mono ?_
    rintro e w1 ⟨rfl, hb⟩
    have HB1 := Kp.mk (HB0.out.trans (hb.mono HB0.out.size))
    have R1 := Kp.mk (Bl.new w1 23 #[.int .i64 fm, .string au, .string pa])
    have HA1 := Kp.mk (HB1.out.alloc HB1.out.size (.cells #[.int .i64 fm, .string au, .string pa] 23))
    clear hb
    go_wp2_with fail
    refine (P2.out _).mono ?_
    rintro e w2 ⟨rfl, hb⟩
    have HB2 := Kp.mk (HA1.out.trans (hb.mono HA1.out.size))
    have R2 := Kp.mk (R1.out.below hb)
    obtain ⟨c0, c1, c2, -, -, -, hl⟩ := tg_res R2.out
    have HA2 := Kp.mk (HB2.out.alloc HB2.out.size (.cells #[.int .i64 fm, .string au, .string pa] 23))
    clear hb
    go_wp2_with fail
    refine (lives12_any _).mono ?_
    rintro e w3 ⟨rfl, hb⟩
    have HB3 := Kp.mk (HA2.out.trans (hb.mono HA2.out.size))
    clear hb
    go_wp2_with fail
    go_ret
    exact ⟨rfl, HB3.out⟩
structure TgS (fm : Int) (au pa : ByteArray) (w W : World) : Prop where
  b : Bl W w.heap.size 23 #[.int .i64 fm, .string au, .string pa]
  bel : Below w.heap.size w W
theorem TgS.below {fm : Int} {au pa : ByteArray} {w W W2 : World} (h : TgS fm au pa w W) (hb : Below W.heap.size W W2) : TgS fm au pa w W2 := ⟨h.b.below hb, h.bel.trans (hb.mono h.bel.size)⟩
set_option maxRecDepth 100000 in
set_option maxHeartbeats 4000000 in
theorem tgout_walk (m : ByteArray) (fm : Int) (au pa : ByteArray) (w : World) (hm : m.size ≤ maxLen) (ha : au.size ≤ maxLen) (hp : pa.size ≤ maxLen) :
    Calls Tryd.prog 4 #[.string m, .agg #[.int .i64 fm, .string au, .string pa]] w fun e w' => e = .returned (.bool true) ∧ Below w.heap.size w w' := by
  unfold maxLen at ha hp hm
  have S0 := Kp.mk (show TgS fm au pa w (w.alloc (.cells #[.int .i64 fm, .string au, .string pa] 23)) from ⟨Bl.new w _ _, tgb1 _ _⟩)
  by_cases g1 : m.size ≤ 60
  · by_cases g2 : au.size ≤ 1000
    · by_cases g3 : pa.size ≤ 1000
      · have q1 : ¬ (60 : Int) < (m.size : Int) := by omega
        have q2 : ¬ (1000 : Int) < (au.size : Int) := by omega
        have q3 : ¬ (1000 : Int) < (pa.size : Int) := by omega
        have P1 := Kp.mk (fun w => tg_text_any fm au pa w (by omega) (by omega))
        have P2 := Kp.mk (fun w => rtg_text_any fm au pa w (by omega) (by omega))
        have P3 := Kp.mk (fun w => tg_out_any m fm au pa w (by omega) (by omega))
        have P4 := Kp.mk (fun w => rtg_out_any m fm au pa w (by omega) (by omega))
        have HD := Kp.mk (S0.out.below (gdrewN _ 1))
        have p0 := fun p : InS (TgS fm au pa w) => p.ok.b.cell 0
        have p1 := fun p : InS (TgS fm au pa w) => p.ok.b.cell 1
        have p2 := fun p : InS (TgS fm au pa w) => p.ok.b.cell 2
        have p3 := fun p : InS (TgS fm au pa w) => p.ok.b.lt
        simp at p0 p1 p2
        haveI hne : Nonempty (InS (TgS fm au pa w)) := ⟨⟨_, S0.out⟩⟩
        generalize tgTx fm au pa = T at *
        generalize tgOut m fm au pa = O at *
        go_enter Tryd.func4, Tryd.ntmps4
        go_wp2_with fail
        refine region_in _ (by kernel_rfl) (by kernel_rfl) HD.out ?_
        repeat (go_big_quiet_step (first
          | (go_at_call 11; exact call_in fun w h => (P1.out w).mono fun _ _ h2 => ⟨h2.1, h.below h2.2⟩)
          | (go_at_call 12; exact call_in fun w h => (P2.out w).mono fun _ _ h2 => ⟨h2.1, h.below h2.2⟩)
          | (go_at_call 13; exact call_in fun w h => (P3.out w).mono fun _ _ h2 => ⟨h2.1, h.below h2.2⟩)
          | (go_at_call 14; exact call_in fun w h => (P4.out w).mono fun _ _ h2 => ⟨h2.1, h.below h2.2⟩)
          | (go_at_call 10; exact call_in fun w h => (lives12_any w).mono fun _ _ h2 => ⟨h2.1, h.below h2.2⟩)))
        refine wpQuiet_nil ?_
        intro _ hw'
        obtain ⟨wq, rfl⟩ := hw'
        have HQ := Kp.mk wq.ok.bel
        go_wp2_with fail
        go_ret
        exact ⟨rfl, HQ.out⟩
      · have q1 : ¬ (60 : Int) < (m.size : Int) := by omega
        have q2 : ¬ (1000 : Int) < (au.size : Int) := by omega
        have q3 : (1000 : Int) < (pa.size : Int) := by omega
        go_enter Tryd.func4, Tryd.ntmps4
        go_wp2_with fail
        refine (lives12_any _).mono ?_
        rintro e w9 ⟨rfl, hb9⟩
        have HB9 := Kp.mk (S0.out.bel.trans (hb9.mono S0.out.bel.size))
        clear hb9
        go_wp2_with fail
        go_ret
        exact ⟨rfl, HB9.out⟩
    · have q1 : ¬ (60 : Int) < (m.size : Int) := by omega
      have q2 : (1000 : Int) < (au.size : Int) := by omega
      go_enter Tryd.func4, Tryd.ntmps4
      go_wp2_with fail
      refine (lives12_any _).mono ?_
      rintro e w9 ⟨rfl, hb9⟩
      have HB9 := Kp.mk (S0.out.bel.trans (hb9.mono S0.out.bel.size))
      clear hb9
      go_wp2_with fail
      go_ret
      exact ⟨rfl, HB9.out⟩
  · have q1 : (60 : Int) < (m.size : Int) := by omega
    go_enter Tryd.func4, Tryd.ntmps4
    go_wp2_with fail
    refine (lives12_any _).mono ?_
    rintro e w9 ⟨rfl, hb9⟩
    have HB9 := Kp.mk (S0.out.bel.trans (hb9.mono S0.out.bel.size))
    clear hb9
    go_wp2_with fail
    go_ret
    exact ⟨rfl, HB9.out⟩
theorem tg_three (m s : ByteArray) : tgR m s = tgNo 2 ∨ tgR m s = tgNo 11 ∨ (tgR m s).e = 0 := by
  by_cases h0 : s.size = 0
  · left; unfold tgR; rw [if_pos h0]
  · by_cases hb : tgBad s = true
    · right; left; unfold tgR; rw [if_neg h0, if_pos hb]
    · have hb2 : tgBad s = false := by cases h : tgBad s; rfl; exact absurd h hb
      by_cases hm : m = tgCon
      · by_cases hk : hsE s = 0 ∧ hsHas s = true
        · right; right; rw [hm, tg_con hb2 hk]
        · right; left; unfold tgR; rw [if_neg h0, if_neg hb, if_pos hm, if_neg hk]
      · by_cases h47 : bt s 0 = 47
        · right; right; rw [tg_one hb2 hm h47]
        · by_cases h42 : s = ⟨#[42]⟩ ∧ m = tgOpt
          · right; right; rw [h42.1, h42.2, tg_star]
          · by_cases hk : tgOkA s = true
            · right; right; rw [tg_abs hb2 hm h47 h42 hk]
            · right; left; unfold tgR; rw [if_neg h0, if_neg hb, if_neg hm, if_neg h47, if_neg h42, if_neg hk]
theorem tg_fail {m s : ByteArray} (h : (tgR m s).e ≠ 0) : (tgR m s).fm = 0 ∧ (tgR m s).au = ⟨#[]⟩ ∧ (tgR m s).pa = ⟨#[]⟩ := by
  rcases tg_three m s with e | e | e
  · rw [e]; exact ⟨rfl, rfl, rfl⟩
  · rw [e]; exact ⟨rfl, rfl, rfl⟩
  · exact absurd e h
theorem tg_sizes (m s : ByteArray) : (tgR m s).au.size ≤ s.size ∧ (tgR m s).pa.size ≤ s.size := by
  by_cases h : (tgR m s).e = 0
  · obtain ⟨hb, ⟨_, _, e⟩ | ⟨_, _, e⟩ | ⟨_, rfl, e⟩ | ⟨_, _, _, e⟩⟩ := tg_cases h
    · rw [e]; exact ⟨Nat.le_refl _, Nat.zero_le _⟩
    · rw [e]; exact ⟨Nat.zero_le _, Nat.le_refl _⟩
    · rw [e]; exact ⟨Nat.zero_le _, Nat.zero_le _⟩
    · rw [e]
      dsimp only
      unfold tgAu tgPa
      rw [ByteArray.size_extract, ByteArray.size_extract]
      omega
  · obtain ⟨_, e1, e2⟩ := tg_fail h
    rw [e1, e2]; exact ⟨Nat.zero_le _, Nat.zero_le _⟩
theorem tgTx_size (fm : Int) (au pa : ByteArray) : (tgTx fm au pa).size ≤ 8 + au.size + pa.size := by
  have h1 : tgSch.size = 7 := rfl
  have h2 : (⟨#[42]⟩ : ByteArray).size = 1 := rfl
  have h3 : (⟨#[]⟩ : ByteArray).size = 0 := rfl
  unfold tgTx
  repeat' split
  all_goals (try rw [ByteArray.size_append, ByteArray.size_append])
  all_goals omega
theorem tgOut_size (m : ByteArray) (fm : Int) (au pa : ByteArray) : (tgOut m fm au pa).size ≤ 8 + au.size + pa.size := by
  have h1 := tgTx_size fm au pa
  have h2 : (⟨#[42]⟩ : ByteArray).size = 1 := rfl
  have h3 : (⟨#[47]⟩ : ByteArray).size = 1 := rfl
  unfold tgOut
  repeat' split
  all_goals (try rw [ByteArray.size_append])
  all_goals omega
set_option maxRecDepth 100000 in
set_option maxHeartbeats 8000000 in
theorem tgback_walk (m0 s0 : ByteArray) (w : World) (hm : m0.size ≤ maxLen) (hs : s0.size ≤ maxLen) :
    Calls Tryd.prog 5 #[.string m0, .string s0] w fun e w' => e = .returned (.bool true) ∧ Below w.heap.size w w' := by
  unfold maxLen at hm hs
  have ha := extract_le m0 60
  have hb := extract_le s0 1000
  have HA := Kp.mk ha
  have HBX := Kp.mk hb
  clear ha hb
  go_enter Tryd.func5, Tryd.ntmps5
  go_upto_region 1 with fail
  go_cut [0, 1] (fun u0 u1 wx => ∃ m s : ByteArray, u0 = .string m ∧ u1 = .string s ∧ m.size ≤ 60 ∧ s.size ≤ 1000 ∧ Below w.heap.size w wx)
  case first =>
    go_quiet (fail)
    go_wp2_with fail
    go_meet
    exact ⟨_, _, rfl, rfl, by rw [ByteArray.size_extract]; omega, by rw [ByteArray.size_extract]; omega, below_drewN _ _⟩
  case rest =>
    obtain ⟨m, s, rfl, rfl, h1, h2, hbel⟩ := hcut
    have HB0 := Kp.mk hbel
    have P1 := Kp.mk (fun w => tg_parse_any m s w (by omega) (by omega))
    obtain ⟨z1, z2⟩ := tg_sizes m s
    clear HA HBX hbel hs hm
    by_cases hE : (tgR m s).e = 0
    · have K1 := Kp.mk (tg_back hE)
      have K2 := Kp.mk (fun hm : m = tgCon => show tgOut m (tgR m s).fm (tgR m s).au (tgR m s).pa = s by subst hm; exact tg_out_con hE)
      have K3 := Kp.mk (fun hm : m ≠ tgCon => tg_out_back hE hm)
      have y1 := tgTx_size (tgR m s).fm (tgR m s).au (tgR m s).pa
      have y2 := tgOut_size m (tgR m s).fm (tgR m s).au (tgR m s).pa
      have P2 := Kp.mk (fun w => tg_parse_any m (tgTx (tgR m s).fm (tgR m s).au (tgR m s).pa) w (by omega) (by omega))
      rw [K1.out] at P2
      have P3 := Kp.mk (fun w => tg_parse_any m (tgOut m (tgR m s).fm (tgR m s).au (tgR m s).pa) w (by omega) (by omega))
      have P4 := Kp.mk (fun w => tg_text_any (tgR m s).fm (tgR m s).au (tgR m s).pa w (by omega) (by omega))
      have P5 := Kp.mk (fun w => tg_out_any m (tgR m s).fm (tgR m s).au (tgR m s).pa w (by omega) (by omega))
      unfold RetTg at P1 P2
      clear K1
      generalize tgR m s = r at *
      obtain ⟨E, fm, au, pa⟩ := r
      dsimp only at P1 P2 P3 P4 P5 hE K2 K3 z1 z2 y1 y2
      subst hE
      generalize tgTx fm au pa = T at *
      generalize tgOut m fm au pa = O at *
      obtain ⟨v1, v2⟩ := tg_sizes m O
      have P6 := Kp.mk (fun w => tg_text_any (tgR m O).fm (tgR m O).au (tgR m O).pa w (by omega) (by omega))
      unfold RetTg at P3
      go_wp2_with fail
      refine (P1.out _).mono ?_
      rintro e w1 ⟨rfl, hb⟩
      have HB1 := Kp.mk (HB0.out.trans (hb.mono HB0.out.size))
      have R1 := Kp.mk (Bl.new w1 23 #[.int .i64 fm, .string au, .string pa])
      have HA1 := Kp.mk (HB1.out.alloc HB1.out.size (.cells #[.int .i64 fm, .string au, .string pa] 23))
      clear hb
      go_wp2_with fail
      refine (P4.out _).mono ?_
      rintro e w2 ⟨rfl, hb⟩
      have HB2 := Kp.mk (HA1.out.trans (hb.mono HA1.out.size))
      have R2 := Kp.mk (R1.out.below hb)
      clear hb
      go_wp2_with fail
      refine (P2.out _).mono ?_
      rintro e w3 ⟨rfl, hb⟩
      have HB3 := Kp.mk (HB2.out.trans (hb.mono HB2.out.size))
      have R3 := Kp.mk (R2.out.below hb)
      obtain ⟨c0, c1, c2, -, -, -, hl⟩ := tg_res R3.out
      have HA3 := Kp.mk (HB3.out.alloc HB3.out.size (.cells #[.int .i64 fm, .string au, .string pa] 23))
      clear hb
      go_wp2_with fail
      refine (P5.out _).mono ?_
      rintro e w4 ⟨rfl, hb⟩
      have HB4 := Kp.mk (HA3.out.trans (hb.mono HA3.out.size))
      clear hb c0 c1 c2 hl
      by_cases hm : m = tgCon
      · have hO := K2.out hm
        subst hO
        have hm1 : (m.toList == [67, 79, 78, 78, 69, 67, 84]) = true := by rw [hm, tgCon_z]; rfl
        clear hm K2 K3
        go_wp2_with fail
        refine (lives12_any _).mono ?_
        rintro e w9 ⟨rfl, hb9⟩
        have HB9 := Kp.mk (HB4.out.trans (hb9.mono HB4.out.size))
        clear hb9
        go_wp2_with fail
        go_ret
        exact ⟨rfl, HB9.out⟩
      · obtain ⟨k1, k2, k3, k4⟩ := K3.out hm
        have hm1 : (m.toList == [67, 79, 78, 78, 69, 67, 84]) = false := by rw [← tgCon_z]; exact eq_no hm
        clear hm K2 K3
        rw [k2] at P6
        generalize tgR m O = r2 at *
        obtain ⟨E2, fm2, au2, pa2⟩ := r2
        dsimp only at P3 P6 k1 v1 v2
        subst k1
        clear k2
        go_wp2_with fail
        refine (P3.out _).mono ?_
        rintro e w5 ⟨rfl, hb⟩
        have HB5 := Kp.mk (HB4.out.trans (hb.mono HB4.out.size))
        have HA5 := Kp.mk (HB5.out.alloc HB5.out.size (.cells #[.int .i64 fm2, .string au2, .string pa2] 23))
        clear hb
        go_wp2_with fail
        refine (P6.out _).mono ?_
        rintro e w6 ⟨rfl, hb⟩
        have HB6 := Kp.mk (HA5.out.trans (hb.mono HA5.out.size))
        clear hb
        by_cases h42 : O = ⟨#[42]⟩
        · have hs1 : (O.toList == [42]) = true := by rw [h42, tgStar_z]; rfl
          clear h42 k4
          go_wp2_with fail
          refine (lives12_any _).mono ?_
          rintro e w9 ⟨rfl, hb9⟩
          have HB9 := Kp.mk (HB6.out.trans (hb9.mono HB6.out.size))
          clear hb9
          go_wp2_with fail
          go_ret
          exact ⟨rfl, HB9.out⟩
        · have h47 := k4.resolve_left h42
          have hs1 : (O.toList == [42]) = false := by rw [← tgStar_z]; exact eq_no h42
          obtain ⟨n1, n2⟩ := hs_nemp k3
          have hx := bt_at O 0 k3
          have hx2 : ((bt O 0 : Int) == 47) = true := by rw [h47]; rfl
          have hx3 : (0 : Int) < (O.size : Int) := by omega
          clear h42 k4 h47
          go_wp2_with fail
          refine (lives12_any _).mono ?_
          rintro e w9 ⟨rfl, hb9⟩
          have HB9 := Kp.mk (HB6.out.trans (hb9.mono HB6.out.size))
          clear hb9
          go_wp2_with fail
          go_ret
          exact ⟨rfl, HB9.out⟩
    · obtain ⟨e1, e2, e3⟩ := tg_fail hE
      have hq : ((tgR m s).e != 0) = true := bne_iff_ne.2 hE
      unfold RetTg at P1
      rw [e1, e2, e3] at P1
      clear e1 e2 e3 hE z1 z2
      generalize (tgR m s).e = E at *
      go_wp2_with fail
      refine (P1.out _).mono ?_
      rintro e w1 ⟨rfl, hb⟩
      have HB1 := Kp.mk (HB0.out.trans (hb.mono HB0.out.size))
      have HA1 := Kp.mk (HB1.out.alloc HB1.out.size (.cells #[.int .i64 0, .string ⟨#[]⟩, .string ⟨#[]⟩] 23))
      clear hb
      go_wp2_with fail
      refine (lives12_any _).mono ?_
      rintro e w9 ⟨rfl, hb9⟩
      have HB9 := Kp.mk (HA1.out.trans (hb9.mono HA1.out.size))
      clear hb9
      go_wp2_with fail
      go_ret
      exact ⟨rfl, HB9.out⟩
/-! ### What came in -/
theorem Tryd.cellsTg12 : Tryd.prog.cellsOf 23 = 3 := by kernel_rfl
theorem Tryd.cellsIn12 : Tryd.prog.cellsOf 3 = 1 := by kernel_rfl
theorem Tryd.cellsSt12 : Tryd.prog.cellsOf 9 = 1 := by kernel_rfl
set_option maxRecDepth 100000 in
theorem targ12_arg (v : Value) (w : World) (h : Arg Tryd.prog w 23 v) : ∃ (fm : Int) (au pa : ByteArray), v = .agg #[.int .i64 fm, .string au, .string pa] ∧ au.size ≤ maxLen ∧ pa.size ≤ maxLen := by
  obtain ⟨cs, rfl, hr⟩ := h.struct Tryd.underlying23
  obtain ⟨hl, hf⟩ := hr.struct Tryd.underlying23
  rw [Tryd.cellsTg12] at hl
  have f0 : Rdb Tryd.prog w 3 ((cs.drop 0).take (Tryd.prog.cellsOf 3)) := hf 0 _ rfl
  rw [Tryd.cellsIn12] at f0
  have f1 : Rdb Tryd.prog w 9 ((cs.drop 1).take (Tryd.prog.cellsOf 9)) := hf 1 _ rfl
  rw [Tryd.cellsSt12] at f1
  have f2 : Rdb Tryd.prog w 9 ((cs.drop 2).take (Tryd.prog.cellsOf 9)) := hf 2 _ rfl
  rw [Tryd.cellsSt12] at f2
  obtain ⟨m, k0, z0⟩ := f0.int Tryd.underlying3
  obtain ⟨t, k1, z1⟩ := f1.str Tryd.underlying9
  obtain ⟨r, k2, z2⟩ := f2.str Tryd.underlying9
  match cs, hl with
  | [x0, x1, x2], _ =>
    simp at k0 k1 k2
    exact ⟨m, t, r, by rw [k0, k1, k2], z1, z2⟩
theorem tgparses_arg (v0 v1 : Value) (w : World) (h0 : Arg Tryd.prog w 9 v0) (h1 : Arg Tryd.prog w 9 v1) :
    Calls Tryd.prog 3 #[v0, v1] w fun e w' => e = .returned (.bool true) ∧ Below w.heap.size w w' := by
  obtain ⟨x, rfl, hx⟩ := h0.str Tryd.underlying9
  obtain ⟨y, rfl, hy⟩ := h1.str Tryd.underlying9
  exact tgparses_walk x y w hx hy
theorem tgback_arg (v0 v1 : Value) (w : World) (h0 : Arg Tryd.prog w 9 v0) (h1 : Arg Tryd.prog w 9 v1) :
    Calls Tryd.prog 5 #[v0, v1] w fun e w' => e = .returned (.bool true) ∧ Below w.heap.size w w' := by
  obtain ⟨x, rfl, hx⟩ := h0.str Tryd.underlying9
  obtain ⟨y, rfl, hy⟩ := h1.str Tryd.underlying9
  exact tgback_walk x y w hx hy
theorem tgout_arg (v0 v1 : Value) (w : World) (h0 : Arg Tryd.prog w 9 v0) (h1 : Arg Tryd.prog w 23 v1) :
    Calls Tryd.prog 4 #[v0, v1] w fun e w' => e = .returned (.bool true) ∧ Below w.heap.size w w' := by
  obtain ⟨x, rfl, hx⟩ := h0.str Tryd.underlying9
  obtain ⟨fm, au, pa, rfl, ha, hp⟩ := targ12_arg v1 w h1
  exact tgout_walk x fm au pa w hx ha hp
end Go.Proofs.YtahehpgnemanmaaDoor
