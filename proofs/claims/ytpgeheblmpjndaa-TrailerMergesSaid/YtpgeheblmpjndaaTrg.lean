/- Trailers (layer 26): what is joined leaves the fields ahead as they are; the law TrailerMerges. -/
import Derived.Test.YtpgeheblmpjndaaTrf
namespace Go.Proofs.Ytpgeheblmpjndaa
open Go.RowKit
set_option linter.unusedVariables false
set_option linter.unusedSimpArgs false

theorem keepL_idem (l : List Fld) : keepL (keepL l) = keepL l := by unfold keepL; rw [List.filter_filter]; simp
theorem foldB_rfl (x : ByteArray) : foldB x x = true := by unfold foldB; simp
theorem mrg_pre (l ts : List Fld) : (mrgL l ts).take l.length = l := List.take_left' rfl
theorem mrg_ge (l ts : List Fld) : l.length ≤ (mrgL l ts).length := by unfold mrgL; rw [List.length_append]; omega
theorem mrg_suf {l ts : List Fld} {p : Fld} (h : p ∈ (mrgL l ts).drop l.length) : alwB p.1 = true ∧ (hAll l p.1).length = 0 ∧ 0 < (hAll ts p.1).length ∧ p ∈ ts := by
  unfold mrgL at h
  rw [List.drop_left' rfl, List.mem_filter] at h
  obtain ⟨h1, h2⟩ := h
  unfold keepL at h1
  rw [List.mem_filter] at h1
  refine ⟨h1.2, by simpa [noneB] using h2, ?_, h1.1⟩
  unfold hAll
  rw [List.length_map]
  exact List.length_pos_of_mem (List.mem_filter.2 ⟨h1.1, foldB_rfl _⟩)
theorem mrg_at {l ts : List Fld} {j : Nat} (h0 : l.length ≤ j) (hj : j < (mrgL l ts).length) : alwB (mrgL l ts)[j].1 = true ∧ (hAll l (mrgL l ts)[j].1).length = 0 ∧ 0 < (hAll ts (mrgL l ts)[j].1).length ∧ (mrgL l ts)[j] ∈ ts := by
  refine mrg_suf ?_
  rw [List.mem_iff_getElem]
  exact ⟨j - l.length, by rw [List.length_drop]; omega, by rw [List.getElem_drop]; congr 1; omega⟩
/-- The elements ahead. -/
theorem RdL.pre {α : Type} {f : α → List Value} {sz : Nat} {w : World} {a : Option Addr} {c : Nat} {l : List α} (h : RdL f sz w (.slice a l.length c) l) {n : Nat} (hn : n ≤ l.length) : RdL f sz w (.slice a n c) (l.take n) := by
  obtain ⟨a', c', h1, h2, h3, h4⟩ := h
  cases h1
  have e : (l.take n).length = n := by rw [List.length_take]; omega
  refine ⟨a, c, by rw [e], by omega, h3, fun h0 => ?_⟩
  obtain ⟨b, o, g1, g2, g3⟩ := h4 (by omega)
  refine ⟨b, o, g1, g2, fun j hj i hi => ?_⟩
  rw [g3 j (by omega) i hi, List.getElem_take]
theorem own_form {w : World} {B : Nat} {e : TypeId} {sz n : Nat} {v : Value} {xs : List Value} (h : w.ownsRow B e sz v n xs) : (v = .slice none 0 0 ∧ n = 0) ∨ ∃ g c, v = .slice (some ⟨g, 0, none⟩) n c ∧ n ≤ c ∧ g < w.heap.size := by
  rcases h.2 with h | ⟨g, cap, cur, rfl, hb, hk, hc, _⟩
  · exact .inl h
  · exact .inr ⟨g, cap, rfl, hc, blk_lt hk⟩
set_option maxRecDepth 100000 in
set_option maxHeartbeats 2000000 in
theorem tmerges_walk (v1 v2 : Value) (l m : List Fld) (w : World) (h1 : RdF w v1 l) (h2 : RdF w v2 m) (z1 : ∀ p ∈ l, FldOk p) (z2 : ∀ p ∈ m, FldOk p) :
    Calls Try.prog 8 #[v1, v2] w fun e w' => e = .returned (.bool true) ∧ Below w.heap.size w w' := by
  have H1 := Kp.mk h1
  have H2 := Kp.mk h2
  have Z2 := Kp.mk z2
  have f1 := few10_any v1 l w h1 z1
  cases hfl : hFew l
  · rw [hfl] at f1
    clear h1 h2 z1 z2
    go_enter Try.func8, Try.ntmps8
    go_wp2_with fail
    refine f1.mono ?_
    rintro e w1 ⟨rfl, hb1⟩
    have HB1 := Kp.mk hb1
    clear hb1
    go_wp2_with fail
    refine (lives26_any _).mono ?_
    rintro e w9 ⟨rfl, hb9⟩
    have HB9 := Kp.mk (HB1.out.trans (hb9.mono HB1.out.size))
    clear hb9
    go_wp2_with fail
    go_ret
    exact ⟨rfl, HB9.out⟩
  · rw [hfl] at f1
    obtain ⟨hl1, hsm1⟩ := hFew_out hfl
    have S1 := Kp.mk hsm1
    obtain ⟨a0, cp0, hv1, hcc, hcm, -⟩ := h1
    subst hv1
    clear hsm1 z1 z2 h2
    go_enter Try.func8, Try.ntmps8
    go_wp2_with fail
    refine f1.mono ?_
    rintro e w1 ⟨rfl, hb1⟩
    have HB1 := Kp.mk hb1
    clear hb1 f1
    have f2 := few10_any v2 m w1 (H2.out.below HB1.out) Z2.out
    cases hfm : hFew m
    · rw [hfm] at f2
      go_wp2_with fail
      refine f2.mono ?_
      rintro e w2 ⟨rfl, hb2⟩
      have HB2 := Kp.mk (HB1.out.trans (hb2.mono HB1.out.size))
      clear hb2 f2
      go_wp2_with fail
      refine (lives26_any _).mono ?_
      rintro e w9 ⟨rfl, hb9⟩
      have HB9 := Kp.mk (HB2.out.trans (hb9.mono HB2.out.size))
      clear hb9
      go_wp2_with fail
      go_ret
      exact ⟨rfl, HB9.out⟩
    · rw [hfm] at f2
      obtain ⟨hl2, hsm2⟩ := hFew_out hfm
      have S2 := Kp.mk hsm2
      clear hsm2
      have g1 := keepL_len l
      have g2 := mrgL_len l m
      have g3 := mrg_ge l m
      have HPR := Kp.mk (mrg_pre l m)
      have HAT := Kp.mk (fun (j : Nat) (h0 : l.length ≤ j) (hj : j < (mrgL l m).length) => mrg_at (l := l) (ts := m) h0 hj)
      have HID := Kp.mk (keepL_idem l)
      have SK := Kp.mk (keepL_sm S1.out)
      go_wp2_with fail
      refine f2.mono ?_
      rintro e w2 ⟨rfl, hb2⟩
      have HB2 := Kp.mk (HB1.out.trans (hb2.mono HB1.out.size))
      clear hb2 f2
      go_wp2_with fail
      refine (keep_any _ l _ (H1.out.below HB2.out) S1.out (by omega)).mono ?_
      rintro e w3 ⟨vk, rfl, ho3, hb3⟩
      have HB3 := Kp.mk (HB2.out.trans (hb3.mono HB2.out.size))
      have RK := Kp.mk (rdf_own ho3)
      obtain ⟨ak, ck, rfl⟩ := own_lenH ho3
      clear hb3 ho3
      go_wp2_with fail
      refine (merge_any _ v2 l m _ (H1.out.below HB3.out) (H2.out.below HB3.out) S1.out S2.out (by omega) (by omega)).mono ?_
      rintro e w4 ⟨vm, rfl, ho4, hb4⟩
      have HB4 := Kp.mk (HB3.out.trans (hb4.mono HB3.out.size))
      have RK4 := Kp.mk (RK.out.below hb4)
      have RM := Kp.mk (rdf_own ho4)
      have hform := own_form ho4
      obtain ⟨am, cm, rfl⟩ := own_lenH ho4
      have hcm2 : (mrgL l m).length ≤ cm ∧ cm ≤ maxLen := by obtain ⟨_, _, e, q1, q2, _⟩ := RM.out; cases e; exact ⟨q1, q2⟩
      clear hb4 ho4 RK
      generalize mrgL l m = M at *
      generalize hKd : keepL l = K at *
      have HKD := Kp.mk hKd
      clear hKd
      have q7 : decide (M.length < l.length) = false := by rw [decide_eq_false_iff_not]; omega
      have q7i : decide ((M.length : Int) < (l.length : Int)) = false := by rw [decide_eq_false_iff_not]; omega
      have q7n : ¬ M.length < l.length := by omega
      go_wp2_with fail
      refine (keep_any _ K _ RK4.out SK.out (by omega)).mono ?_
      rintro e w5 ⟨vk2, rfl, ho5, hb5⟩
      rw [HID.out] at ho5
      have HB5 := Kp.mk (HB4.out.trans (hb5.mono HB4.out.size))
      have RM5 := Kp.mk (RM.out.below hb5)
      have RK5 := Kp.mk (RK4.out.below hb5)
      have RK2 := Kp.mk (rdf_own ho5)
      obtain ⟨ak2, ck2, rfl⟩ := own_lenH ho5
      clear hb5 ho5 RK4 RM
      go_wp2_with fail
      refine (rfsame_any _ _ K K _ RK2.out RK5.out (by omega) (by omega)).mono ?_
      rw [sameL_i]
      rintro e w6 ⟨rfl, hb6⟩
      have HB6 := Kp.mk (HB5.out.trans (hb6.mono HB5.out.size))
      have RM6 := Kp.mk (RM5.out.below hb6)
      clear hb6 RM5 RK5 RK2
      have hz : l.length ≤ M.length := g3
      obtain ⟨hz1, hz2⟩ := hcm2
      unfold maxLen at hz2
      go_wp2_with fail
      refine (rfsame_any _ _ (M.take l.length) l _ (RM6.out.pre g3) (H1.out.below HB6.out) (by rw [List.length_take]; omega) (by omega)).mono ?_
      rw [HPR.out, sameL_i]
      rintro e w7 ⟨rfl, hb7⟩
      have HB7 := Kp.mk (HB6.out.trans (hb7.mono HB6.out.size))
      have RM7 := Kp.mk (RM6.out.below hb7)
      clear hb7 RM6
      by_cases hcl : cm = l.length
      · have q8 : M.length - l.length = 0 := by omega
        go_wp2_with fail
        go_loopw [49] (fun i wr => i = .int .i64 0 ∧ Below w.heap.size w wr) (fun _ _ => 0)
        case atStart => exact ⟨rfl, HB7.out⟩
        case round =>
          obtain ⟨rfl, hb⟩ := hrel
          have HB := Kp.mk hb
          clear hb
          have q9 : ¬ (0 : Int) < ((M.length - l.length : Nat) : Int) := by omega
          go_wp2_with fail
          refine (lives26_any _).mono ?_
          rintro e w9 ⟨rfl, hb9⟩
          have HB9 := Kp.mk (HB.out.trans (hb9.mono HB.out.size))
          clear hb9
          go_wp2_with fail
          go_ret
          exact ⟨rfl, HB9.out⟩
      · rcases hform with ⟨he, h0⟩ | ⟨g, c, he, _, hg⟩
        · simp at he
          omega
        cases he
        have hd : M.length - l.length + l.length = M.length := by omega
        generalize hD : M.length - l.length = D at *
        go_wp2_with fail
        go_loopw [49] (fun i wr => ∃ k : Nat, k ≤ D ∧ i = .int .i64 k ∧ Below w.heap.size w wr ∧ RdF wr (.slice (some ⟨g, 0, none⟩) M.length cm) M) (fun i _ => D - (intOf i).toNat)
        case atStart => exact ⟨0, by omega, rfl, HB7.out, RM7.out⟩
        case round =>
          obtain ⟨k, hk, rfl, hb, hr⟩ := hrel
          have HB := Kp.mk hb
          have HR := Kp.mk hr
          have hsz := hb.size
          clear hb
          by_cases hlt : k < D
          · have hj : l.length + k < M.length := by omega
            obtain ⟨g', o', he', hgl, d0⟩ := rdf_cells hr (by omega)
            cases he'
            obtain ⟨c1, c2⟩ := d0 (l.length + k) hj
            obtain ⟨m1, m2, m3, m4⟩ := HAT.out (l.length + k) (by omega) hj
            obtain ⟨m5, m6⟩ := S2.out _ m4
            have q0 : (0 : Int) ≤ (k : Int) := by omega
            have q1 : (k : Int) < (D : Int) := by omega
            clear d0 hr m4
            generalize M[l.length + k] = p at *
            obtain ⟨x, y⟩ := p
            simp only at c1 c2 m1 m2 m3 m5 m6
            rw [show 0 + (l.length + k) * 2 = l.length * 2 + k * 2 by omega] at c1 c2
            have M1 := Kp.mk m1
            have M2 := Kp.mk m2
            have M3 := Kp.mk m3
            clear m1 m2 m3
            have HBA := Kp.mk (show Below w.heap.size w (wr.alloc (.cells #[.string x, .string y] 43)) from HB.out.alloc hsz _)
            have HKN := Kp.mk (heap_alloc_new wr (.cells #[.string x, .string y] 43))
            have HRA := Kp.mk (HR.out.below ((Below.refl wr.heap.size wr).alloc (Nat.le_refl _) (.cells #[.string x, .string y] 43)))
            have n1 : ((0 : Nat) : Int) = 0 := rfl
            go_wp2_with fail
            refine (allowed_any x _ m5).mono ?_
            rintro e u1 ⟨rfl, hb1⟩
            rw [M1.out]
            have HC1 := Kp.mk (HBA.out.trans (hb1.mono HBA.out.size))
            have HR1 := Kp.mk (HRA.out.below hb1)
            have HN1 := Kp.mk ((hb1.block wr.heap.size (by simp)).trans HKN.out)
            have e1 := blk_cell (i := 0) HN1.out rfl
            clear hb1
            go_wp2_with fail
            refine (hcount_any _ l x _ (H1.out.below HC1.out) S1.out (by omega) m5).mono ?_
            rintro e u2 ⟨rfl, hb2⟩
            rw [M2.out]
            have HC2 := Kp.mk (HC1.out.trans (hb2.mono HC1.out.size))
            have HR2 := Kp.mk (HR1.out.below hb2)
            have HN2 := Kp.mk ((hb2.block wr.heap.size (blk_lt HN1.out)).trans HN1.out)
            have e2 := blk_cell (i := 0) HN2.out rfl
            clear hb2 e1
            go_wp2_with fail
            refine (hcount_any _ m x _ (H2.out.below HC2.out) S2.out (by omega) m5).mono ?_
            rintro e u3 ⟨rfl, hb3⟩
            have q6 : (((hAll m x).length : Int) == 0) = false := by rw [beq_eq_false_iff_ne]; have := M3.out; omega
            have HC3 := Kp.mk (HC2.out.trans (hb3.mono HC2.out.size))
            have HR3 := Kp.mk (HR2.out.below hb3)
            clear hb3 e2
            go_wp2_with fail
            go_roundw
            case rel => exact ⟨k + 1, by omega, by go_num, HC3.out, HR3.out⟩
            case measure => simp [intOf]; omega
          · have q9 : ¬ (k : Int) < (D : Int) := by omega
            go_wp2_with fail
            refine (lives26_any _).mono ?_
            rintro e w9 ⟨rfl, hb9⟩
            have HB9 := Kp.mk (HB.out.trans (hb9.mono HB.out.size))
            clear hb9
            go_wp2_with fail
            go_ret
            exact ⟨rfl, HB9.out⟩
theorem tmerges_arg (v0 v1 : Value) (w : World) (h0 : Arg Try.prog w 22 v0) (h1 : Arg Try.prog w 22 v1) :
    Calls Try.prog 8 #[v0, v1] w fun e w' => e = .returned (.bool true) ∧ Below w.heap.size w w' := by
  obtain ⟨l, hv, hz⟩ := hlist_argT v0 w h0
  obtain ⟨m, hv2, hz2⟩ := hlist_argT v1 w h1
  exact tmerges_walk v0 v1 l m w hv hv2 hz hz2
end Go.Proofs.Ytpgeheblmpjndaa
