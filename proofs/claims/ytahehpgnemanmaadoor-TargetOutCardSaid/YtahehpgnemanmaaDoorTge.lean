/- Targets (layer 12): Text and Out, both sides; the document's Parse. -/
import Derived.Test.YtahehpgnemanmaaDoorTgd
namespace Go.Proofs.YtahehpgnemanmaaDoor
open Go.RowKit
set_option linter.unusedVariables false
set_option linter.unusedSimpArgs false

theorem tgb1 (w : World) (o1 : Obj) : Below w.heap.size w (w.alloc o1) := (Below.refl _ _).alloc (Nat.le_refl _) _
theorem pre47 (s : ByteArray) : Lib.hasPrefix s.data.toList (⟨#[47]⟩ : ByteArray).data.toList = decide (0 < s.size ∧ bt s 0 = 47) := by
  rw [ba_size]
  cases h : s.data.toList with
  | nil => simp [Lib.hasPrefix]
  | cons c r =>
    have e : Lib.hasPrefix (c :: r) (⟨#[47]⟩ : ByteArray).data.toList = ((47 : UInt8) == c) := by simp [Lib.hasPrefix, List.isPrefixOf]
    rw [e, bt_cons h, Bool.eq_iff_iff, beq_iff_eq, decide_eq_true_eq]
    constructor
    · rintro rfl; exact ⟨by simp, rfl⟩
    · rintro ⟨_, h⟩; exact (UInt8.toNat_inj.1 (show c.toNat = (47 : UInt8).toNat from h)).symm
theorem tg_pre_any (s : ByteArray) (w : World) : Calls Tryd.prog 37 #[.string s, .string ⟨#[47]⟩] w fun e w' => e = .returned (.bool (decide (0 < s.size ∧ bt s 0 = 47))) ∧ w = w' :=
  (Tryd.strings_HasPrefix s ⟨#[47]⟩ w).mono fun _ _ h => ⟨by rw [h.1, pre47], h.2.symm⟩
theorem tgTx_n {fm : Int} (h1 : fm ≠ 1) (h2 : fm ≠ 2) (h3 : fm ≠ 3) (h4 : fm ≠ 4) (au pa : ByteArray) : tgTx fm au pa = ⟨#[]⟩ := by unfold tgTx; rw [if_neg h1, if_neg h2, if_neg h3, if_neg h4]
theorem tgTx_2 (au pa : ByteArray) : tgTx 2 au pa = ⟨#[104, 116, 116, 112, 58, 47, 47]⟩ ++ au ++ pa := rfl
set_option maxRecDepth 100000 in
set_option maxHeartbeats 1000000 in
theorem tg_text_any (fm : Int) (au pa : ByteArray) (w : World) (ha : au.size ≤ 1000000) (hp : pa.size ≤ 1000000) :
    Calls Tryd.prog 11 #[.agg #[.int .i64 fm, .string au, .string pa]] w fun e w' => e = .returned (.string (tgTx fm au pa)) ∧ Below w.heap.size w w' := by
  have HB := Kp.mk (tgb1 w (.cells #[.int .i64 fm, .string au, .string pa] 23))
  by_cases h1 : fm = 1
  · subst h1
    have HX := Kp.mk (show tgTx 1 au pa = pa from rfl)
    go_enter Tryd.func11, Tryd.ntmps11
    go_wp2_with fail
    go_ret
    exact ⟨by rw [HX.out]; rfl, HB.out⟩
  · by_cases h2 : fm = 2
    · subst h2
      have HX := Kp.mk (tgTx_2 au pa)
      clear h1
      go_enter Tryd.func11, Tryd.ntmps11
      go_wp2_with fail
      go_ret
      exact ⟨by rw [HX.out]; rfl, HB.out⟩
    · by_cases h3 : fm = 3
      · subst h3
        have HX := Kp.mk (show tgTx 3 au pa = au from rfl)
        clear h1 h2
        go_enter Tryd.func11, Tryd.ntmps11
        go_wp2_with fail
        go_ret
        exact ⟨by rw [HX.out]; rfl, HB.out⟩
      · by_cases h4 : fm = 4
        · subst h4
          have HX := Kp.mk (show tgTx 4 au pa = ⟨#[42]⟩ from rfl)
          clear h1 h2 h3
          go_enter Tryd.func11, Tryd.ntmps11
          go_wp2_with fail
          go_ret
          exact ⟨by rw [HX.out]; rfl, HB.out⟩
        · have HX := Kp.mk (tgTx_n h1 h2 h3 h4 au pa)
          have q1 : (fm == 1) = false := beq_eq_false_iff_ne.2 h1
          have q2 : (fm == 2) = false := beq_eq_false_iff_ne.2 h2
          have q3 : (fm == 3) = false := beq_eq_false_iff_ne.2 h3
          have q4 : (fm == 4) = false := beq_eq_false_iff_ne.2 h4
          clear h1 h2 h3 h4
          go_enter Tryd.func11, Tryd.ntmps11
          go_wp2_with fail
          go_ret
          exact ⟨by rw [HX.out]; rfl, HB.out⟩
set_option maxRecDepth 100000 in
set_option maxHeartbeats 1000000 in
theorem rtg_text_any (fm : Int) (au pa : ByteArray) (w : World) (ha : au.size ≤ 1000000) (hp : pa.size ≤ 1000000) :
    Calls Tryd.prog 12 #[.agg #[.int .i64 fm, .string au, .string pa]] w fun e w' => e = .returned (.string (tgTx fm au pa)) ∧ Below w.heap.size w w' := by
  have HB := Kp.mk (tgb1 w (.cells #[.int .i64 fm, .string au, .string pa] 23))
  by_cases h1 : fm = 1
  · subst h1
    have HX := Kp.mk (show tgTx 1 au pa = pa from rfl)
    go_enter Tryd.func12, Tryd.ntmps12
    go_wp2_with fail
    go_ret
    exact ⟨by rw [HX.out]; rfl, HB.out⟩
  · by_cases h2 : fm = 2
    · subst h2
      have HX := Kp.mk (tgTx_2 au pa)
      clear h1
      go_enter Tryd.func12, Tryd.ntmps12
      go_wp2_with fail
      go_ret
      exact ⟨by rw [HX.out]; rfl, HB.out⟩
    · by_cases h3 : fm = 3
      · subst h3
        have HX := Kp.mk (show tgTx 3 au pa = au from rfl)
        clear h1 h2
        go_enter Tryd.func12, Tryd.ntmps12
        go_wp2_with fail
        go_ret
        exact ⟨by rw [HX.out]; rfl, HB.out⟩
      · by_cases h4 : fm = 4
        · subst h4
          have HX := Kp.mk (show tgTx 4 au pa = ⟨#[42]⟩ from rfl)
          clear h1 h2 h3
          go_enter Tryd.func12, Tryd.ntmps12
          go_wp2_with fail
          go_ret
          exact ⟨by rw [HX.out]; rfl, HB.out⟩
        · have HX := Kp.mk (tgTx_n h1 h2 h3 h4 au pa)
          have q1 : (fm == 1) = false := beq_eq_false_iff_ne.2 h1
          have q2 : (fm == 2) = false := beq_eq_false_iff_ne.2 h2
          have q3 : (fm == 3) = false := beq_eq_false_iff_ne.2 h3
          have q4 : (fm == 4) = false := beq_eq_false_iff_ne.2 h4
          clear h1 h2 h3 h4
          go_enter Tryd.func12, Tryd.ntmps12
          go_wp2_with fail
          go_ret
          exact ⟨by rw [HX.out]; rfl, HB.out⟩
set_option maxRecDepth 100000 in
set_option maxHeartbeats 1000000 in
theorem tg_out_any (m : ByteArray) (fm : Int) (au pa : ByteArray) (w : World) (ha : au.size ≤ 1000000) (hp : pa.size ≤ 1000000) :
    Calls Tryd.prog 13 #[.string m, .agg #[.int .i64 fm, .string au, .string pa]] w fun e w' => e = .returned (.string (tgOut m fm au pa)) ∧ Below w.heap.size w w' := by
  have HB := Kp.mk (tgb1 w (.cells #[.int .i64 fm, .string au, .string pa] 23))
  by_cases h2 : fm = 2
  · subst h2
    have HPX := Kp.mk (fun w => tg_pre_any pa w)
    by_cases h0 : 0 < pa.size
    · obtain ⟨n1, n2⟩ := hs_nemp h0
      by_cases h47 : bt pa 0 = 47
      · have HX := Kp.mk (show tgOut m 2 au pa = pa by rw [tgOut_abs, if_neg (by omega), if_pos ⟨h0, h47⟩])
        rw [decide_eq_true ⟨h0, h47⟩] at HPX
        have hx := bt_at pa 0 h0
        have hx2 : ((bt pa 0 : Int) != 47) = false := by rw [h47]; rfl
        have hx3 : (0 : Int) < (pa.size : Int) := by omega
        clear h47
        go_enter Tryd.func13, Tryd.ntmps13
        go_wp2_with fail
        refine (HPX.out _).mono ?_
        rintro e w1 ⟨rfl, rfl⟩
        go_wp2_with fail
        go_ret
        exact ⟨by rw [HX.out]; rfl, HB.out⟩
      · have HX := Kp.mk (show tgOut m 2 au pa = ⟨#[47]⟩ ++ pa by rw [tgOut_abs, if_neg (by omega), if_neg (fun q => h47 q.2)])
        rw [decide_eq_false (fun q => h47 q.2)] at HPX
        have hx := bt_at pa 0 h0
        have hx2 : ((bt pa 0 : Int) != 47) = true := by rw [bne_iff_ne]; omega
        have hx3 : (0 : Int) < (pa.size : Int) := by omega
        clear h47
        go_enter Tryd.func13, Tryd.ntmps13
        go_wp2_with fail
        refine (HPX.out _).mono ?_
        rintro e w1 ⟨rfl, rfl⟩
        go_wp2_with fail
        go_ret
        exact ⟨by rw [HX.out]; rfl, HB.out⟩
    · obtain rfl := hs_emp h0
      clear h0 hp
      by_cases hm : m = tgOpt
      · have HX := Kp.mk (show tgOut m 2 au ⟨#[]⟩ = ⟨#[42]⟩ by rw [tgOut_abs, if_pos ⟨rfl, hm⟩])
        have hm2 : (m.toList == [79, 80, 84, 73, 79, 78, 83]) = true := by rw [hm, tgOpt_z]; rfl
        clear hm
        go_enter Tryd.func13, Tryd.ntmps13
        go_wp2_with fail
        go_ret
        exact ⟨by rw [HX.out]; rfl, HB.out⟩
      · have HX := Kp.mk (show tgOut m 2 au ⟨#[]⟩ = ⟨#[47]⟩ by rw [tgOut_abs, if_neg (fun q => hm q.2), if_neg (fun q => absurd q.1 (by decide))]; rfl)
        have hm2 : (m.toList == [79, 80, 84, 73, 79, 78, 83]) = false := by rw [← tgOpt_z]; exact eq_no hm
        rw [decide_eq_false (fun q => absurd q.1 (by decide))] at HPX
        clear hm
        go_enter Tryd.func13, Tryd.ntmps13
        go_wp2_with fail
        refine (HPX.out _).mono ?_
        rintro e w1 ⟨rfl, rfl⟩
        go_wp2_with fail
        go_ret
        exact ⟨by rw [HX.out]; rfl, HB.out⟩
  · have q2 : (fm != 2) = true := bne_iff_ne.2 h2
    have HX := Kp.mk (show tgOut m fm au pa = tgTx fm au pa from if_pos h2)
    have HT := Kp.mk (fun w => tg_text_any fm au pa w ha hp)
    generalize tgTx fm au pa = T at *
    clear h2
    go_enter Tryd.func13, Tryd.ntmps13
    go_wp2_with fail
    refine (HT.out _).mono ?_
    rintro e w1 ⟨rfl, hb⟩
    have HB2 := Kp.mk (HB.out.trans (hb.mono HB.out.size))
    clear hb
    go_wp2_with fail
    go_ret
    exact ⟨by rw [HX.out]; rfl, HB2.out⟩
set_option maxRecDepth 100000 in
set_option maxHeartbeats 1000000 in
theorem rtg_out_any (m : ByteArray) (fm : Int) (au pa : ByteArray) (w : World) (ha : au.size ≤ 1000000) (hp : pa.size ≤ 1000000) :
    Calls Tryd.prog 14 #[.string m, .agg #[.int .i64 fm, .string au, .string pa]] w fun e w' => e = .returned (.string (tgOut m fm au pa)) ∧ Below w.heap.size w w' := by
  have HB := Kp.mk (tgb1 w (.cells #[.int .i64 fm, .string au, .string pa] 23))
  by_cases h2 : fm = 2
  · subst h2
    have HPX := Kp.mk (fun w => tg_pre_any pa w)
    by_cases h0 : 0 < pa.size
    · obtain ⟨n1, n2⟩ := hs_nemp h0
      by_cases h47 : bt pa 0 = 47
      · have HX := Kp.mk (show tgOut m 2 au pa = pa by rw [tgOut_abs, if_neg (by omega), if_pos ⟨h0, h47⟩])
        rw [decide_eq_true ⟨h0, h47⟩] at HPX
        have hx := bt_at pa 0 h0
        have hx2 : ((bt pa 0 : Int) != 47) = false := by rw [h47]; rfl
        have hx3 : (0 : Int) < (pa.size : Int) := by omega
        clear h47
        go_enter Tryd.func14, Tryd.ntmps14
        go_wp2_with fail
        go_ret
        exact ⟨by rw [HX.out]; rfl, HB.out⟩
      · have HX := Kp.mk (show tgOut m 2 au pa = ⟨#[47]⟩ ++ pa by rw [tgOut_abs, if_neg (by omega), if_neg (fun q => h47 q.2)])
        rw [decide_eq_false (fun q => h47 q.2)] at HPX
        have hx := bt_at pa 0 h0
        have hx2 : ((bt pa 0 : Int) != 47) = true := by rw [bne_iff_ne]; omega
        have hx3 : (0 : Int) < (pa.size : Int) := by omega
        clear h47
        go_enter Tryd.func14, Tryd.ntmps14
        go_wp2_with fail
        go_ret
        exact ⟨by rw [HX.out]; rfl, HB.out⟩
    · obtain rfl := hs_emp h0
      clear h0 hp
      by_cases hm : m = tgOpt
      · have HX := Kp.mk (show tgOut m 2 au ⟨#[]⟩ = ⟨#[42]⟩ by rw [tgOut_abs, if_pos ⟨rfl, hm⟩])
        have hm2 : (m.toList == [79, 80, 84, 73, 79, 78, 83]) = true := by rw [hm, tgOpt_z]; rfl
        clear hm
        go_enter Tryd.func14, Tryd.ntmps14
        go_wp2_with fail
        go_ret
        exact ⟨by rw [HX.out]; rfl, HB.out⟩
      · have HX := Kp.mk (show tgOut m 2 au ⟨#[]⟩ = ⟨#[47]⟩ by rw [tgOut_abs, if_neg (fun q => hm q.2), if_neg (fun q => absurd q.1 (by decide))]; rfl)
        have hm2 : (m.toList == [79, 80, 84, 73, 79, 78, 83]) = false := by rw [← tgOpt_z]; exact eq_no hm
        rw [decide_eq_false (fun q => absurd q.1 (by decide))] at HPX
        clear hm
        go_enter Tryd.func14, Tryd.ntmps14
        go_wp2_with fail
        go_ret
        exact ⟨by rw [HX.out]; rfl, HB.out⟩
  · have q2 : (fm != 2) = true := bne_iff_ne.2 h2
    have HX := Kp.mk (show tgOut m fm au pa = tgTx fm au pa from if_pos h2)
    have HT := Kp.mk (fun w => rtg_text_any fm au pa w ha hp)
    generalize tgTx fm au pa = T at *
    clear h2
    go_enter Tryd.func14, Tryd.ntmps14
    go_wp2_with fail
    refine (HT.out _).mono ?_
    rintro e w1 ⟨rfl, hb⟩
    have HB2 := Kp.mk (HB.out.trans (hb.mono HB.out.size))
    clear hb
    go_wp2_with fail
    go_ret
    exact ⟨by rw [HX.out]; rfl, HB2.out⟩
end Go.Proofs.YtahehpgnemanmaaDoor
