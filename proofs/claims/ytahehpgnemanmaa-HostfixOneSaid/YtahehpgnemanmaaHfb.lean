/- Where a request goes (layer 32): Fix on both sides, the example. -/
import Derived.Test.YtahehpgnemanmaaHfa
import Derived.Test.YtahehpgnemanmaaHdj
import Derived.Test.YtahehpgnemanmaaHdd
import Derived.Test.YtahehpgnemanmaaHdl
import Derived.Test.YtahehpgnemanmaaHdb
namespace Go.Proofs.Ytahehpgnemanmaa
open Go.RowKit
set_option linter.unusedVariables false
set_option linter.unusedSimpArgs false

/-- P32.2: what is wrong, and the fields. -/
def hfE (l : List Fld) (fm : Int) (au a : ByteArray) (tm : Int) : Int := if 0 < tm ∧ hsE (hfP l fm au a) ≠ 0 then 13 else 0
def hfL (l : List Fld) (fm : Int) (au a : ByteArray) (tm : Int) : List Fld := if 0 < tm ∧ hsE (hfP l fm au a) ≠ 0 then [] else if (hfP l fm au a).size = 0 then hWo l [hfHost] else hSet l hfHost (hfP l fm au a)
def RetFx (l : List Fld) (e0 : Int) (w : World) (e : Ending) (w' : World) : Prop := ∃ v, e = .returned (.tuple #[v, .int .i64 e0]) ∧ w'.ownsRow w.heap.size 61 2 v l.length (fvH l) ∧ Below w.heap.size w w'
theorem hf_low {W : World} {B B' : Nat} {e : TypeId} {sz n : Nat} {v : Value} {xs : List Value} (h : W.ownsRow B e sz v n xs) (hb : B' ≤ B) : W.ownsRow B' e sz v n xs := by
  refine ⟨h.1, ?_⟩
  rcases h.2 with h2 | ⟨g, cap, cur, rfl, h3, hg, rest⟩
  · exact .inl h2
  · exact .inr ⟨g, cap, cur, rfl, by omega, hg, rest⟩
theorem rds_mk1 (w : World) (x : ByteArray) : RdS (w.alloc (.cells #[.string x] 9)) (.slice (some ⟨w.heap.size, 0, none⟩) 1 1) [x] :=
  ⟨_, 1, rfl, by simp, by unfold maxLen; omega, fun _ => ⟨w.heap.size, 0, rfl, by simp, fun j hj i hi => by
    have h1 : j = 0 := by simpa using hj
    have h2 : i = 0 := by omega
    subst h1; subst h2
    exact blk_cell (i := 0) (heap_alloc_new w _) rfl⟩⟩
set_option maxRecDepth 100000 in
set_option maxHeartbeats 2000000 in
theorem hf_fix_any (v : Value) (l : List Fld) (fm : Int) (au pa a : ByteArray) (tm : Int) (w : World) (hv : RdF w v l) (hz : ∀ p ∈ l, FldSm p) (hl : l.length ≤ 100000) (h1 : au.size ≤ 100000) (h2 : a.size ≤ 100000) :
    Calls Try.prog 19 #[v, .agg #[.int .i64 fm, .string au, .string pa], .string a, .int .i64 tm] w (RetFx (hfL l fm au a tm) (hfE l fm au a tm) w) := by
  have KB := Kp.mk ((Below.refl _ w).alloc (Nat.le_refl _) (.cells #[.int .i64 fm, .string au, .string pa] 34))
  have HP := Kp.mk (fun w hv => hf_place_any v l fm au pa a w hv hz hl)
  have hsm := hfP_sm (fm := fm) hz h1 h2
  have HK := Kp.mk (fun w => hs_parse_any (hfP l fm au a) w (by omega))
  unfold hsRet at HK
  have HV := Kp.mk hv
  have HL := Kp.mk (show hfL l fm au a tm = if 0 < tm ∧ hsE (hfP l fm au a) ≠ 0 then [] else if (hfP l fm au a).size = 0 then hWo l [hfHost] else hSet l hfHost (hfP l fm au a) from rfl)
  have HE := Kp.mk (show hfE l fm au a tm = if 0 < tm ∧ hsE (hfP l fm au a) ≠ 0 then 13 else 0 from rfl)
  have HSET := Kp.mk (fun y w hv => hset_any v l hfHost y w hv hz hl (by decide))
  have HWO := Kp.mk (fun v2 w hv hv2 => hwo_any v v2 l [hfHost] w hv hv2 hz (by simp; decide) hl (by simp))
  unfold RetF at HSET HWO
  obtain ⟨ad, cap, rfl, -, -, -⟩ := hv
  generalize hfP l fm au a = s at *
  generalize hsN s = N at *
  generalize hsP s = P at *
  generalize hsE s = E at *
  go_enter Try.func19, Try.ntmps19
  go_wp2_with fail
  refine (HP.out _ (HV.out.below KB.out)).mono ?_
  rintro e w1 ⟨rfl, hb⟩
  have HB := Kp.mk (KB.out.trans (hb.mono KB.out.size))
  clear hb
  go_wp2_with fail
  refine (HK.out _).mono ?_
  rintro e w2 ⟨rfl, hb⟩
  have HB2 := Kp.mk (HB.out.trans (hb.mono HB.out.size))
  clear hb
  by_cases hbad : 0 < tm ∧ E ≠ 0
  · rw [if_pos hbad] at HL HE
    obtain ⟨g1, g2⟩ := hbad
    have q2 : (E != 0) = true := bne_iff_ne.2 g2
    clear g2
    go_wp2_with fail
    go_ret2
    exact ⟨_, by rw [HE.out]; rfl, by rw [HL.out]; exact World.ownsRow_nil _ _ _ _, HB2.out⟩
  · rw [if_neg hbad] at HL HE
    have main : ∀ (q : (0 < tm ∧ E = 0) ∨ ¬ 0 < tm), True := fun _ => trivial
    have hcase : (0 < tm ∧ E = 0) ∨ ¬ 0 < tm := by
      by_cases g : 0 < tm
      · left
        refine ⟨g, ?_⟩
        by_cases g2 : E = 0
        · exact g2
        · exact absurd ⟨g, g2⟩ hbad
      · exact .inr g
    clear hbad main
    by_cases hs0 : 0 < s.size
    · obtain ⟨n1, n2⟩ := hs_nemp hs0
      rw [if_neg (by omega)] at HL
      rcases hcase with ⟨g1, rfl⟩ | g1
      all_goals
        go_wp2_with fail
        refine (HSET.out s _ (HV.out.below HB2.out)).mono ?_
        rintro e w3 ⟨u, rfl, ho, hb⟩
        have HB3 := Kp.mk (HB2.out.trans (hb.mono HB2.out.size))
        have HO := Kp.mk (hf_low ho HB2.out.size)
        clear ho hb
        go_wp2_with fail
        go_ret2
        exact ⟨_, by rw [HE.out]; rfl, by rw [HL.out]; exact HO.out, HB3.out⟩
    · obtain rfl := hs_emp hs0
      rw [if_pos (show (⟨#[]⟩ : ByteArray).size = 0 from rfl)] at HL
      have R1 := Kp.mk (rds_mk1 w2 hfHost)
      have RB := Kp.mk ((Below.refl _ w2).alloc (Nat.le_refl _) (.cells #[.string hfHost] 9))
      have RB2 := Kp.mk (HB2.out.alloc HB2.out.size (.cells #[.string hfHost] 9))
      have RO := Kp.mk (RB2.out.size)
      clear hs0
      rcases hcase with ⟨g1, rfl⟩ | g1
      all_goals
        go_wp2_with fail
        refine (HWO.out _ _ (HV.out.below RB2.out) R1.out).mono ?_
        rintro e w3 ⟨u, rfl, ho, hb⟩
        have HB3 := Kp.mk (RB2.out.trans (hb.mono RB2.out.size))
        have HO := Kp.mk (hf_low ho RO.out)
        clear ho hb
        go_wp2_with fail
        go_ret2
        exact ⟨_, by rw [HE.out]; rfl, by rw [HL.out]; exact HO.out, HB3.out⟩
set_option maxRecDepth 100000 in
set_option maxHeartbeats 2000000 in
theorem rhf_fix_any (v : Value) (l : List Fld) (fm : Int) (au pa a : ByteArray) (tm : Int) (w : World) (hv : RdF w v l) (hz : ∀ p ∈ l, FldSm p) (hl : l.length ≤ 100000) (h1 : au.size ≤ 100000) (h2 : a.size ≤ 100000) :
    Calls Try.prog 20 #[v, .agg #[.int .i64 fm, .string au, .string pa], .string a, .int .i64 tm] w (RetFx (hfL l fm au a tm) (hfE l fm au a tm) w) := by
  have KB := Kp.mk ((Below.refl _ w).alloc (Nat.le_refl _) (.cells #[.int .i64 fm, .string au, .string pa] 34))
  have HP := Kp.mk (fun w hv => rhf_place_any v l fm au pa a w hv hz hl)
  have hsm := hfP_sm (fm := fm) hz h1 h2
  have HK := Kp.mk (fun w => rhs_parse_any (hfP l fm au a) w (by omega))
  unfold hsRet at HK
  have HV := Kp.mk hv
  have HL := Kp.mk (show hfL l fm au a tm = if 0 < tm ∧ hsE (hfP l fm au a) ≠ 0 then [] else if (hfP l fm au a).size = 0 then hWo l [hfHost] else hSet l hfHost (hfP l fm au a) from rfl)
  have HE := Kp.mk (show hfE l fm au a tm = if 0 < tm ∧ hsE (hfP l fm au a) ≠ 0 then 13 else 0 from rfl)
  have HSET := Kp.mk (fun y w hv => rhset_any v l hfHost y w hv hz hl (by decide))
  have HWO := Kp.mk (fun v2 w hv hv2 => rhwo_any v v2 l [hfHost] w hv hv2 hz (by simp; decide) hl (by simp))
  unfold RetF at HSET HWO
  obtain ⟨ad, cap, rfl, -, -, -⟩ := hv
  generalize hfP l fm au a = s at *
  generalize hsN s = N at *
  generalize hsP s = P at *
  generalize hsE s = E at *
  go_enter Try.func20, Try.ntmps20
  go_wp2_with fail
  refine (HP.out _ (HV.out.below KB.out)).mono ?_
  rintro e w1 ⟨rfl, hb⟩
  have HB := Kp.mk (KB.out.trans (hb.mono KB.out.size))
  clear hb
  go_wp2_with fail
  refine (HK.out _).mono ?_
  rintro e w2 ⟨rfl, hb⟩
  have HB2 := Kp.mk (HB.out.trans (hb.mono HB.out.size))
  clear hb
  by_cases hbad : 0 < tm ∧ E ≠ 0
  · rw [if_pos hbad] at HL HE
    obtain ⟨g1, g2⟩ := hbad
    have q2 : (E != 0) = true := bne_iff_ne.2 g2
    clear g2
    go_wp2_with fail
    go_ret2
    exact ⟨_, by rw [HE.out]; rfl, by rw [HL.out]; exact World.ownsRow_nil _ _ _ _, HB2.out⟩
  · rw [if_neg hbad] at HL HE
    have hcase : (0 < tm ∧ E = 0) ∨ ¬ 0 < tm := by
      by_cases g : 0 < tm
      · left
        refine ⟨g, ?_⟩
        by_cases g2 : E = 0
        · exact g2
        · exact absurd ⟨g, g2⟩ hbad
      · exact .inr g
    clear hbad
    by_cases hs0 : 0 < s.size
    · obtain ⟨n1, n2⟩ := hs_nemp hs0
      rw [if_neg (by omega)] at HL
      rcases hcase with ⟨g1, rfl⟩ | g1
      all_goals
        go_wp2_with fail
        refine (HSET.out s _ (HV.out.below HB2.out)).mono ?_
        rintro e w3 ⟨u, rfl, ho, hb⟩
        have HB3 := Kp.mk (HB2.out.trans (hb.mono HB2.out.size))
        have HO := Kp.mk (hf_low ho HB2.out.size)
        clear ho hb
        go_wp2_with fail
        go_ret2
        exact ⟨_, by rw [HE.out]; rfl, by rw [HL.out]; exact HO.out, HB3.out⟩
    · obtain rfl := hs_emp hs0
      rw [if_pos (show (⟨#[]⟩ : ByteArray).size = 0 from rfl)] at HL
      have R1 := Kp.mk (rds_mk1 w2 hfHost)
      have RB2 := Kp.mk (HB2.out.alloc HB2.out.size (.cells #[.string hfHost] 9))
      have RO := Kp.mk (RB2.out.size)
      clear hs0
      rcases hcase with ⟨g1, rfl⟩ | g1
      all_goals
        go_wp2_with fail
        refine (HWO.out _ _ (HV.out.below RB2.out) R1.out).mono ?_
        rintro e w3 ⟨u, rfl, ho, hb⟩
        have HB3 := Kp.mk (RB2.out.trans (hb.mono RB2.out.size))
        have HO := Kp.mk (hf_low ho RO.out)
        clear ho hb
        go_wp2_with fail
        go_ret2
        exact ⟨_, by rw [HE.out]; rfl, by rw [HL.out]; exact HO.out, HB3.out⟩
end Go.Proofs.Ytahehpgnemanmaa
