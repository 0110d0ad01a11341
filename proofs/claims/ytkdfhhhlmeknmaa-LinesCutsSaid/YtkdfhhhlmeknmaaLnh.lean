/- Lines that are taken out of octets: the laws LinesFeed, LinesCuts (layer 16). -/
import Derived.Test.YtkdfhhhlmeknmaaLng
namespace Go.Proofs.Ytkdfhhhlmeknmaa
open Go.RowKit
set_option linter.unusedVariables false
set_option linter.unusedSimpArgs false

theorem rds_blk {α : Type} {f : α → List Value} {sz : Nat} {w : World} {v : Value} {l : List α} (h : RdL f sz w v l) (h0 : 0 < l.length) : ∀ k, v.ownBlock = some k → k < w.heap.size := by
  obtain ⟨a, c, rfl, h2, h3, h4⟩ := h
  obtain ⟨b, o, rfl, g2, g3⟩ := h4 h0
  intro k hk
  simp [Value.ownBlock] at hk
  omega
theorem onl_new {b : Nat} {g : Option Nat} {w w1 w2 : World} (h : Below w.heap.size w w1) (ho : Onl b g w1 w2) (hb : w.heap.size ≤ b) (hg : ∀ k, g = some k → w.heap.size ≤ k) : Below w.heap.size w w2 :=
  h.trans (ho.below hb h.size hg)
set_option maxRecDepth 100000 in
set_option maxHeartbeats 4000000 in
theorem linesfeed_walk (m : Int) (v : Value) (ps : List ByteArray) (w : World) (hv : RdS w v ps) (hz : ∀ t ∈ ps, t.size ≤ maxLen) :
    Calls Try.prog 3 #[.int .i64 m, v] w fun e w' => e = .returned (.bool true) ∧ Below w.heap.size w w' := by
  have HV := Kp.mk hv
  have HZ := Kp.mk hz
  obtain ⟨a1, c1, rfl, -, -, -⟩ := hv.strs
  clear hv hz
  by_cases hin : 0 ≤ m ∧ m ≤ 65536
  · obtain ⟨most, rfl⟩ := Int.eq_ofNat_of_zero_le hin.1
    have hm : most ≤ 65536 := by omega
    have hn1 : decide ((most : Int) < 0) = false := by simp
    have hn2 : decide ((65536 : Int) < (most : Int)) = false := by simp; omega
    clear hin
    go_enter Try.func3, Try.ntmps3
    go_wp2_with fail
    refine (joined_any _ ps _ HV.out HZ.out).mono ?_
    rintro e w1 ⟨s, ok, rfl, rfl, hok⟩
    have HOK := Kp.mk hok
    clear hok
    go_wp2_with fail
    refine (new_yes most _ hm).mono ?_
    rintro e w1 ⟨rfl, hl1, hz1, hb1⟩
    have HL1 := Kp.mk hl1
    have HB1 := Kp.mk hb1
    clear hl1 hz1 hb1
    cases ok
    · go_wp2_with fail
      refine (lives16_any _).mono ?_
      rintro e w3 ⟨rfl, hb3⟩
      go_wp2_with fail
      go_ret
      exact ⟨rfl, below_thn HB1.out hb3⟩
    · obtain ⟨k1, k2, k3, k4⟩ := HOK.out rfl
      have K1 := Kp.mk k1
      have K4 := Kp.mk k4
      clear k1 k4
      go_wp2_with fail
      refine (feedall_any w.heap.size most _ _ ps _ HL1.out (HV.out.below HB1.out) (fun h0 e => absurd (rds_blk HV.out h0 _ e) (Nat.lt_irrefl _)) (fun _ k _ e => by cases e) (fun t ht => Nat.le_trans (K4.out t ht) (by omega)) k3 (by rw [← K1.out, ← ba_size']; exact k2)).mono ?_
      rintro e w2 ⟨va, tva, rfl, hfa⟩
      have HFA := Kp.mk hfa
      have HB2 := Kp.mk (onl_new HB1.out hfa.only (Nat.le_refl _) (by intro k h; cases h))
      clear hfa
      rw [← K1.out]
      have hF := HFA.out
      rw [← K1.out] at hF
      have HF := Kp.mk hF
      clear hF
      go_wp2_with fail
      refine (read16_any s most _ (by omega) hm).mono ?_
      rintro e w3 ⟨vb, rfl, hob, hb3⟩
      have HOB := Kp.mk (rds_own hob)
      have HB3 := Kp.mk (below_thn HB2.out hb3)
      have HF3 := Kp.mk (HF.out.below hb3)
      have HOK2 := Kp.mk (all16_ok most s.data.toList)
      clear hob hb3
      generalize all16 most s.data.toList = F at *
      go_wp2_with fail
      refine (samestr_eq va vb _ _ (rds_own HF3.out.own) HOB.out).mono ?_
      rintro e w4 ⟨rfl, hb4⟩
      have HB4 := Kp.mk (below_thn HB3.out hb4)
      have HF4 := Kp.mk (HF3.out.below hb4)
      clear hb4
      go_wp2_with fail
      refine (spent_any w.heap.size most _ _ _ HF4.out.lin).mono ?_
      rintro e w5 ⟨rfl, rfl⟩
      go_wp2_with fail
      refine (within_any w.heap.size most _ _ _ HF4.out.lin HOK2.out.nowhole).mono ?_
      rintro e w5 ⟨rfl, rfl⟩
      go_wp2_with fail
      refine (whole_any w.heap.size most _ _ _ HF4.out.lin).mono ?_
      rintro e w5 ⟨rfl, rfl⟩
      rw [HOK2.out.nowhole]
      go_wp2_with fail
      refine (lives16_any _).mono ?_
      rintro e w5 ⟨rfl, hb5⟩
      go_wp2_with fail
      go_ret
      exact ⟨rfl, below_thn HB4.out hb5⟩
  · have hor : m < 0 ∨ (¬ m < 0 ∧ 65536 < m) := by omega
    have HOR := Kp.mk (show m < 0 ∨ 65536 < m by omega)
    clear hin
    have hd : (m < 0 ∧ decide (m < 0) = true ∧ decide (65536 < m) = false) ∨ (¬ m < 0 ∧ decide (m < 0) = false ∧ decide (65536 < m) = true) := by
      rcases hor with h | ⟨h, h'⟩
      · exact .inl ⟨h, by simpa using h, by simp; omega⟩
      · exact .inr ⟨h, by simpa using h, by simpa using h'⟩
    clear hor
    rcases hd with ⟨h, h1, h2⟩ | ⟨h, h1, h2⟩
    all_goals
      go_enter Try.func3, Try.ntmps3
      go_wp2_with fail
      refine (joined_any _ ps _ HV.out HZ.out).mono ?_
      rintro e w1 ⟨s, ok, rfl, rfl, hok⟩
      clear hok
      go_wp2_with fail
      refine (new_no m _ HOR.out).mono ?_
      rintro e w1 ⟨rfl, hb1⟩
      have HB1 := Kp.mk hb1
      clear hb1
      cases ok
      all_goals
        go_wp2_with fail
        refine (lives16_any _).mono ?_
        rintro e w3 ⟨rfl, hb3⟩
        go_wp2_with fail
        go_ret
        exact ⟨rfl, below_thn HB1.out hb3⟩
theorem catL_one (s : ByteArray) : catL [s] = s.data.toList := by simp [catL]
theorem rds_one (w : World) (s : ByteArray) : RdS (w.alloc (.cells #[.string s] 9)) (.slice (some ⟨w.heap.size, 0, none⟩) 1 1) [s] := by
  refine ⟨_, 1, rfl, by simp, by unfold maxLen; omega, fun _ => ⟨w.heap.size, 0, rfl, by simp, fun j hj i hi => ?_⟩⟩
  have : j = 0 := by simpa using hj
  subst this
  have : i = 0 := by omega
  subst this
  have := cells_new w #[.string s] 9 0 (.string s) rfl
  rw [Addr.add_lit] at this
  exact this
set_option maxRecDepth 100000 in
set_option maxHeartbeats 4000000 in
theorem linescuts_walk (m : Int) (v : Value) (ps : List ByteArray) (w : World) (hv : RdS w v ps) (hz : ∀ t ∈ ps, t.size ≤ maxLen) :
    Calls Try.prog 4 #[.int .i64 m, v] w fun e w' => e = .returned (.bool true) ∧ Below w.heap.size w w' := by
  have HV := Kp.mk hv
  have HZ := Kp.mk hz
  obtain ⟨a1, c1, rfl, -, -, -⟩ := hv.strs
  clear hv hz
  by_cases hin : 0 ≤ m ∧ m ≤ 65536
  · obtain ⟨most, rfl⟩ := Int.eq_ofNat_of_zero_le hin.1
    have hm : most ≤ 65536 := by omega
    have hn1 : decide ((most : Int) < 0) = false := by simp
    have hn2 : decide ((65536 : Int) < (most : Int)) = false := by simp; omega
    clear hin
    go_enter Try.func4, Try.ntmps4
    go_wp2_with fail
    refine (joined_any _ ps _ HV.out HZ.out).mono ?_
    rintro e w1 ⟨s, ok, rfl, rfl, hok⟩
    have HOK := Kp.mk hok
    clear hok
    cases ok
    · go_wp2_with fail
      refine (lives16_any _).mono ?_
      rintro e w3 ⟨rfl, hb3⟩
      go_wp2_with fail
      go_ret
      exact ⟨rfl, hb3⟩
    · obtain ⟨k1, k2, k3, k4⟩ := HOK.out rfl
      have K1 := Kp.mk k1
      have K4 := Kp.mk k4
      clear k1 k4
      go_wp2_with fail
      refine (new_yes most _ hm).mono ?_
      rintro e w1 ⟨rfl, hl1, hz1, hb1⟩
      have HL1 := Kp.mk hl1
      have HB1 := Kp.mk hb1
      have hs1 : w.heap.size < w1.heap.size := by omega
      clear hl1 hz1 hb1
      go_wp2_with fail
      refine (new_yes most _ hm).mono ?_
      rintro e w2 ⟨rfl, hl2, hz2, hb2⟩
      have HP2 := Kp.mk (HL1.out.below hb2)
      have HQ2 := Kp.mk hl2
      have HB2 := Kp.mk (below_thn HB1.out hb2)
      have hs2 : w1.heap.size < w2.heap.size := by omega
      clear hl2 hz2 hb2
      go_wp2_with fail
      refine (feedall_any w.heap.size most _ _ ps _ HP2.out (HV.out.below HB2.out) (fun h0 e => absurd (rds_blk HV.out h0 _ e) (Nat.lt_irrefl _)) (fun _ k _ e => by cases e) (fun t ht => Nat.le_trans (K4.out t ht) (by omega)) k3 (by rw [← K1.out, ← ba_size']; exact k2)).mono ?_
      rintro e w3 ⟨va, tva, rfl, hfa⟩
      rw [← K1.out] at hfa ⊢
      have HFA := Kp.mk hfa
      have HQ3 := Kp.mk (show LinAt w1.heap.size most ls0 (.slice none 0 0) w3 from HQ2.out.kept fun k hk hor => by
        rcases hor with rfl | h
        · exact hfa.only.block _ hk (by omega) (by intro e; cases e)
        · cases h)
      have HB3 := Kp.mk (onl_new HB2.out hfa.only (Nat.le_refl _) (by intro k h; cases h))
      have hs3 : w2.heap.size ≤ w3.heap.size := hfa.only.size
      clear hfa
      go_wp2_with fail
      have HAL := Kp.mk (show Below w3.heap.size w3 (w3.alloc (.cells #[.string s] 9)) from (Below.refl _ _).alloc (Nat.le_refl _) _)
      refine (feedall_any w1.heap.size most _ _ [s] _ (HQ3.out.below HAL.out) (rds_one w3 s) (fun _ e => by simp [Value.ownBlock] at e; omega) (fun _ k _ e => by cases e) (fun t ht => by simp at ht; subst ht; exact k2) (by simp) (by rw [catL_one, ← ba_size']; exact k2)).mono ?_
      rintro e w4 ⟨vb, tvb, rfl, hfb⟩
      rw [catL_one] at hfb ⊢
      have HFA4 := Kp.mk (HFA.out.below HAL.out)
      have HFB := Kp.mk hfb
      have hta : ∀ k, tva.ownBlock = some k → w2.heap.size ≤ k := fun k hk => by
        rcases HFA.out.nxt with h | ⟨j, h, hj⟩
        · rw [h] at hk; cases hk
        · rw [h] at hk; cases hk; exact hj
      have HPA := Kp.mk (show LinAt w.heap.size most (all16 most s.data.toList).2 tva w4 from HFA4.out.lin.kept fun k hk hor => hfb.only.block k hk (by
        rcases hor with rfl | h
        · omega
        · have := hta k h; omega) (by intro e; cases e))
      have HOA := Kp.mk (hfb.only.own HFA4.out.own (fun e => by have := (HFA4.out.own.lt _ e).1; omega) (fun k _ e => by cases e))
      have HB4 := Kp.mk (onl_new (HB3.out.trans (HAL.out.mono (by have := HB3.out.size; omega))) hfb.only (by omega) (by intro k h; cases h))
      have HOK2 := Kp.mk (all16_ok most s.data.toList)
      clear hfb hta
      generalize all16 most s.data.toList = F at *
      go_wp2_with fail
      refine (samestr_eq va vb _ _ (rds_own HOA.out) (rds_own HFB.out.own)).mono ?_
      rintro e w5 ⟨rfl, hb5⟩
      have HB5 := Kp.mk (below_thn HB4.out hb5)
      have HPA5 := Kp.mk (HPA.out.below hb5)
      have HFB5 := Kp.mk (HFB.out.below hb5)
      clear hb5
      go_wp2_with fail
      refine (spent_any w.heap.size most _ _ _ HPA5.out).mono ?_
      rintro e w6 ⟨rfl, rfl⟩
      go_wp2_with fail
      refine (spent_any w1.heap.size most _ _ _ HFB5.out.lin).mono ?_
      rintro e w6 ⟨rfl, rfl⟩
      go_wp2_with fail
      refine (within_any w.heap.size most _ _ _ HPA5.out HOK2.out.nowhole).mono ?_
      rintro e w6 ⟨rfl, rfl⟩
      go_wp2_with fail
      refine (within_any w1.heap.size most _ _ _ HFB5.out.lin HOK2.out.nowhole).mono ?_
      rintro e w6 ⟨rfl, rfl⟩
      go_wp2_with fail
      refine (lives16_any _).mono ?_
      rintro e w6 ⟨rfl, hb6⟩
      go_wp2_with fail
      go_ret
      exact ⟨rfl, below_thn HB5.out hb6⟩
  · have hor : m < 0 ∨ (¬ m < 0 ∧ 65536 < m) := by omega
    have hd : (m < 0 ∧ decide (m < 0) = true ∧ decide (65536 < m) = false) ∨ (¬ m < 0 ∧ decide (m < 0) = false ∧ decide (65536 < m) = true) := by
      rcases hor with h | ⟨h, h'⟩
      · exact .inl ⟨h, by simpa using h, by simp; omega⟩
      · exact .inr ⟨h, by simpa using h, by simpa using h'⟩
    clear hor hin
    rcases hd with ⟨h, h1, h2⟩ | ⟨h, h1, h2⟩
    all_goals
      go_enter Try.func4, Try.ntmps4
      go_wp2_with fail
      refine (joined_any _ ps _ HV.out HZ.out).mono ?_
      rintro e w1 ⟨s, ok, rfl, rfl, hok⟩
      clear hok
      cases ok
      all_goals
        go_wp2_with fail
        refine (lives16_any _).mono ?_
        rintro e w3 ⟨rfl, hb3⟩
        go_wp2_with fail
        go_ret
        exact ⟨rfl, hb3⟩
end Go.Proofs.Ytkdfhhhlmeknmaa
