/- HeaderKeeps (layer 10). -/
import Derived.Test.YtaniokdgekgdkaaHdg
import Derived.Test.YtaniokdgekgdkaaHdl
import Derived.Test.YtaniokdgekgdkaaHdj
import Derived.Deep.RegionHeld3
import Derived.Deep.DeepCutAuto
namespace Go.Proofs.Ytaniokdgekgdkaa
open Go.RowKit
set_option linter.unusedVariables false
set_option linter.unusedSimpArgs false

theorem hlist_arg3 (v : Value) (w : World) (h : Arg Try.prog w 22 v) : ∃ l, RdF w v l ∧ ∀ p ∈ l, FldOk p :=
  h.list (f := fldC) (Q := FldOk) Try.underlying22 Try.fcellsFld (by omega) fun E hE =>
    fld_of Try.underlying34 Try.underlying9 Try.fcellsFld Try.fcellsFs ⟨_, rfl, rfl, rfl⟩ ⟨_, rfl, rfl, rfl⟩ hE
theorem sameL_eq {α : Type} [DecidableEq α] (l : List α) : sameL l l = true := decide_eq_true rfl
theorem setGo_sm (nm y : ByteArray) (hy : y.size ≤ 100000) : ∀ (l s : List Fld) (b : Bool), (∀ p ∈ s, FldSm p) → (∀ p ∈ l, FldSm p) → ∀ p ∈ (l.foldl (setStep nm y) (s, b)).1, FldSm p
  | [], s, b, h, _ => h
  | q :: r, s, b, h, hl => by
    rw [List.foldl_cons]
    obtain ⟨x, z⟩ := q
    have hq := hl (x, z) (by simp)
    have hr : ∀ p ∈ r, FldSm p := fun p hp => hl p (by simp [hp])
    cases hf : foldB x nm
    · rw [step_no hf]
      exact setGo_sm nm y hy r _ _ (fun p hp => by rcases List.mem_append.1 hp with hp | hp; exact h p hp; simp at hp; subst hp; exact hq) hr
    · cases b
      · rw [step_new hf]
        exact setGo_sm nm y hy r _ _ (fun p hp => by rcases List.mem_append.1 hp with hp | hp; exact h p hp; simp at hp; subst hp; exact ⟨hq.1, hy⟩) hr
      · rw [step_had hf]
        exact setGo_sm nm y hy r _ _ h hr
theorem hSet_sm {l : List Fld} {nm y : ByteArray} (hl : ∀ p ∈ l, FldSm p) (hn : nm.size ≤ 100000) (hy : y.size ≤ 100000) : ∀ p ∈ hSet l nm y, FldSm p := by
  unfold hSet
  split
  · exact setGo_sm nm y hy l [] false (by simp) hl
  · intro p hp
    rcases List.mem_append.1 hp with hp | hp
    · exact hl p hp
    · simp at hp; subst hp; exact ⟨hn, hy⟩
theorem hSet_ln (l : List Fld) (nm y : ByteArray) : (hSet l nm y).length ≤ l.length + 1 := by
  unfold hSet
  split
  · have := setL_len l nm y; omega
  · simp
theorem hk_S {w w2 wc : World} {x y : ByteArray} (hlt : w.heap.size < w2.heap.size) (hk : w2.heap[w.heap.size]? = some (.cells #[.string x, .string y] 34 (0, 0))) (hd : Below w2.heap.size w2 wc) : wc.cell? ⟨w.heap.size, 0, none⟩ = some (.string x) ∧ wc.cell? ⟨w.heap.size, 1, none⟩ = some (.string y) :=
  ⟨blk_cell (i := 0) ((hd.block _ hlt).trans hk) rfl, blk_cell (i := 1) ((hd.block _ hlt).trans hk) rfl⟩
theorem rds_one (w : World) (x : ByteArray) : RdS (w.alloc (.cells #[.string x] 9)) (.slice (some ⟨w.heap.size, 0, none⟩) 1 1) [x] :=
  rds_own (l := [x]) (World.ownsRow_lit (base := w.heap.size) (e := 9) (size := 1) w #[.string x] 1 (Nat.le_refl _) (by unfold maxLen; omega) rfl)
set_option maxRecDepth 100000 in
set_option maxHeartbeats 8000000 in
theorem hkeep_walk (v1 : Value) (l : List Fld) (x y ot : ByteArray) (w : World) (h1 : RdF w v1 l) (z1 : ∀ p ∈ l, FldOk p) (hx : x.size ≤ maxLen) (hy : y.size ≤ maxLen) (hot : ot.size ≤ maxLen) :
    Calls Try.prog 5 #[v1, .agg #[.string x, .string y], .string ot] w fun e w' => e = .returned (.bool true) ∧ Below w.heap.size w w' := by
  have HBA := Kp.mk ((Below.refl w.heap.size w).alloc (Nat.le_refl _) (.cells #[.string x, .string y] 34))
  have HKA := Kp.mk (heap_alloc_new w (.cells #[.string x, .string y] 34))
  have H0 := Kp.mk h1
  have f1 := few10_any v1 l (w.alloc (.cells #[.string x, .string y] 34)) (h1.below HBA.out) z1
  clear z1
  go_enter Try.func5, Try.ntmps5
  go_wp2_with fail
  refine f1.mono ?_
  rintro e w1 ⟨rfl, hb1⟩
  have HB1 := Kp.mk (HBA.out.trans (hb1.mono (by simp)))
  have HK1 := Kp.mk ((hb1.block w.heap.size (by simp)).trans HKA.out)
  have hz1 : w.heap.size < w1.heap.size := by have := hb1.size; simp at this; omega
  have d0 := blk_cell (i := 0) HK1.out rfl
  have d1 := blk_cell (i := 1) HK1.out rfl
  clear hb1 f1
  by_cases hok : hFew l = true ∧ x.size ≤ 100 ∧ y.size ≤ 300 ∧ ot.size ≤ 100
  · obtain ⟨hfl, hx1, hy1, ho1⟩ := hok
    obtain ⟨hl1, hsm1⟩ := hFew_out hfl
    have S1 := Kp.mk hsm1
    have q1 : ¬ (100 : Int) < (ot.size : Int) := by omega
    have q2 : ¬ (100 : Int) < (x.size : Int) := by omega
    have q3 : ¬ (300 : Int) < (y.size : Int) := by omega
    rw [hfl]
    clear hsm1 d0 d1
    have hx5 : x.size ≤ 100000 := by omega
    have hy5 : y.size ≤ 100000 := by omega
    have ho5 : ot.size ≤ 100000 := by omega
    have hl5 : l.length ≤ 100000 := by omega
    have h15 : [x].length ≤ 100000 := by simp
    have SX := Kp.mk (show ∀ n ∈ [x], n.size ≤ 100000 from fun n hn => by simp at hn; subst hn; exact hx5)
    have hBL := (Below.refl w1.heap.size w1).alloc (Nat.le_refl _) (.cells #[] 34)
    have HVA := Kp.mk ((H0.out.below HB1.out).below hBL)
    have HO := Kp.mk (World.ownsRow_lit (base := w1.heap.size) (e := 34) (size := 2) w1 #[] 0 (Nat.le_refl _) (by unfold maxLen; omega) rfl)
    have HBL := Kp.mk hBL
    have hszA : w1.heap.size ≤ (w1.alloc (.cells #[] 34)).heap.size := hBL.size
    have hlen0 : (0 + l.length) * 32 ≤ 140737488355328 := by omega
    have hmx0 : 0 + l.length ≤ maxLen := by unfold maxLen; omega
    have hd0 := blk_cell (i := 0) HK1.out rfl
    have hd1 := blk_cell (i := 1) HK1.out rfl
    clear hBL
    obtain ⟨a, cap, rfl, hc1, hc2, -⟩ := h1
    go_upto_region 4 with (at_builtin; refine app_list rfl _ _ _ _ rfl Try.underlying22 _ Try.infoFH rfl w1.heap.size _ 0 _ rfl HO.out _ rfl l HVA.out hlen0 hmx0 hszA ?_; intro v2 w2 g1 g2; rw [Nat.zero_add] at g1; have HD1 := Kp.mk (HBL.out.grown g2 hszA fun k hk => (HO.out.lt k hk).1); have HW := Kp.mk (rdf_own g1); obtain ⟨a7, c7, rfl⟩ := own_lenH g1; clear g1 g2)
    have HC := Kp.mk (HB1.out.trans (HD1.out.mono (Nat.le_of_lt hz1)))
    have HK := Kp.mk ((HD1.out.block _ hz1).trans HK1.out)
    have hlt : w.heap.size < w2.heap.size := Nat.lt_of_lt_of_le hz1 HD1.out.size
    have H1 := Kp.mk (H0.out.below HC.out)
    have HWS := Kp.mk (show ∀ p ∈ hWo l [x], FldSm p from fun p hp => S1.out p (List.mem_filter.1 hp).1)
    have HSS := Kp.mk (hSet_sm (nm := x) (y := y) S1.out hx5 hy5)
    have hwl : (hWo l [x]).length ≤ 100000 := by have := hWo_len l [x]; omega
    have hsl : (hSet l x y).length ≤ 100000 := by have := hSet_ln l x y; omega
    clear HD1 HO HVA HBL hszA hlen0 hmx0 hd0 hd1 HK1 HB1 HBA HKA
    go_cut [8, 9] (fun v8 v9 wx => RdF wx v8 (hSet l x y) ∧ RdF wx v9 (hWo l [x]) ∧ Below w2.heap.size w2 wx)
    case first =>
      have HD := Kp.mk (show Below w2.heap.size w2 w2.drew from (Below.refl _ _).drew)
      go_region_held3 (fun w' => w'.cell? ⟨w.heap.size, 0, none⟩ = some (.string x) ∧ w'.cell? ⟨w.heap.size, 1, none⟩ = some (.string y))
        ((first | exact hk_S hlt HK.out HD.out | exact hk_S hlt HK.out (HD.out.alloc HD.out.size _)))
        ((first
          | (go_at_call 26; (first
              | (refine (hset_any _ l x y _ (H1.out.below HD.out) S1.out hl5 hx5).mono ?_; rintro e wn ⟨u, rfl, ho, hb⟩; (try replace HN := Kp.mk (HN.out.below hb)); replace HD := Kp.mk (HD.out.trans (hb.mono HD.out.size)))
              | (refine (hset_any _ l x y _ (H1.out.below (HD.out.alloc HD.out.size _)) S1.out hl5 hx5).mono ?_; rintro e wn ⟨u, rfl, ho, hb⟩; have HN := Kp.mk ((rds_one _ x).below hb); replace HD := Kp.mk ((HD.out.alloc HD.out.size _).trans (hb.mono (HD.out.alloc HD.out.size _).size)))); obtain ⟨ua, uc, rfl⟩ := own_lenH ho; have HP := Kp.mk (rdf_own ho); (try replace HQ := Kp.mk (HQ.out.below hb)); clear ho hb)
          | (go_at_call 22; (first
              | (refine (hwo_any _ _ l [x] _ (H1.out.below HD.out) HN.out S1.out SX.out hl5 h15).mono ?_; rintro e wn ⟨u, rfl, ho, hb⟩; (try replace HP := Kp.mk (HP.out.below hb)); replace HD := Kp.mk (HD.out.trans (hb.mono HD.out.size)))
              | (refine (hwo_any _ _ l [x] _ (H1.out.below (HD.out.alloc HD.out.size _)) (rds_one _ x) S1.out SX.out hl5 h15).mono ?_; rintro e wn ⟨u, rfl, ho, hb⟩; (try replace HP := Kp.mk ((HP.out.below ((Below.refl _ _).alloc (Nat.le_refl _) _)).below hb)); replace HD := Kp.mk ((HD.out.alloc HD.out.size _).trans (hb.mono (HD.out.alloc HD.out.size _).size)))); obtain ⟨ua, uc, rfl⟩ := own_lenH ho; have HQ := Kp.mk (rdf_own ho); clear ho hb)))
      all_goals go_wp2_with fail
      all_goals (try go_meet)
      all_goals exact ⟨HP.out, HQ.out, HD.out⟩
    case rest =>
      obtain ⟨hp8, hq9, hd4⟩ := hcut
      have HP := Kp.mk hp8
      have HQ := Kp.mk hq9
      have HD := Kp.mk hd4
      clear hp8 hq9 hd4
      have HG := Kp.mk (show hGet (hSet l x y) x = y ∧ hIs (hSet l x y) x = true by unfold hGet hIs; rw [hSet_own]; simp)
      have HF := Kp.mk (hk_S hlt HK.out HD.out)
      have hd0 := HF.out.1
      have hd1 := HF.out.2
      go_wp2_with fail
      refine (hget_any _ (hSet l x y) x _ HP.out HSS.out hsl hx5).mono ?_
      rw [HG.out.1, HG.out.2]
      rintro e w5 ⟨rfl, hb⟩
      have HD5 := Kp.mk (HD.out.trans (hb.mono HD.out.size))
      have HP5 := Kp.mk (HP.out.below hb)
      have HQ5 := Kp.mk (HQ.out.below hb)
      have hd2 := (hk_S hlt HK.out HD5.out).1
      have hd3 := (hk_S hlt HK.out HD5.out).2
      clear hb hd0 hd1 HF
      go_wp2_with fail
      refine (hcount_any _ (hSet l x y) x _ HP5.out HSS.out hsl hx5).mono ?_
      rw [hSet_own]
      simp only [List.length_cons, List.length_nil]
      rintro e w6 ⟨rfl, hb⟩
      have HD6 := Kp.mk (HD5.out.trans (hb.mono HD5.out.size))
      have HP6 := Kp.mk (HP5.out.below hb)
      have HQ6 := Kp.mk (HQ5.out.below hb)
      have hd0 := (hk_S hlt HK.out HD6.out).1
      have hd1 := (hk_S hlt HK.out HD6.out).2
      clear hb hd2 hd3
      go_wp2_with fail
      refine (hcount_any _ (hWo l [x]) x _ HQ6.out HWS.out hwl hx5).mono ?_
      rw [hWo_own]
      simp only [List.length_nil]
      rintro e w7 ⟨rfl, hb⟩
      have HD7 := Kp.mk (HD6.out.trans (hb.mono HD6.out.size))
      have HP7 := Kp.mk (HP6.out.below hb)
      have HQ7 := Kp.mk (HQ6.out.below hb)
      clear hb hd0 hd1
      go_wp2_with fail
      refine (hsame_any _ _ l l _ (H1.out.below HD7.out) (HW.out.below HD7.out) (by omega) (by omega)).mono ?_
      rw [sameL_eq]
      rintro e w8 ⟨rfl, hb⟩
      have HD8 := Kp.mk (HD7.out.trans (hb.mono HD7.out.size))
      have HP8 := Kp.mk (HP7.out.below hb)
      have HQ8 := Kp.mk (HQ7.out.below hb)
      have hd0 := (hk_S hlt HK.out HD8.out).1
      clear hb
      go_wp2_with fail
      refine (is10_any ot x _ ho5 hx5).mono ?_
      cases hio : foldB ot x
      · rintro e w9 ⟨rfl, hb⟩
        have HD9 := Kp.mk (HD8.out.trans (hb.mono HD8.out.size))
        have HP9 := Kp.mk (HP8.out.below hb)
        have HQ9 := Kp.mk (HQ8.out.below hb)
        clear hb hd0
        have hal := hAll_len l ot
        go_wp2_with fail
        refine (hall_any _ l ot _ (H1.out.below HD9.out) S1.out hl5 ho5).mono ?_
        rintro e w10 ⟨u, rfl, ho, hb⟩
        have HD10 := Kp.mk (HD9.out.trans (hb.mono HD9.out.size))
        have HP10 := Kp.mk (HP9.out.below hb)
        have HQ10 := Kp.mk (HQ9.out.below hb)
        have HR10 := Kp.mk (rds_own ho)
        obtain ⟨a10, c10, rfl⟩ := own_lenH ho
        clear hb ho
        go_wp2_with fail
        refine (hall_any _ (hSet l x y) ot _ HP10.out HSS.out hsl ho5).mono ?_
        rw [hSet_other l x y ot hio]
        rintro e w11 ⟨u, rfl, ho, hb⟩
        have HD11 := Kp.mk (HD10.out.trans (hb.mono HD10.out.size))
        have HQ11 := Kp.mk (HQ10.out.below hb)
        have HR11 := Kp.mk (HR10.out.below hb)
        have HT11 := Kp.mk (rds_own ho)
        obtain ⟨a11, c11, rfl⟩ := own_lenH ho
        clear hb ho
        go_wp2_with fail
        refine (rssame_any _ _ (hAll l ot) (hAll l ot) _ HT11.out HR11.out (by omega) (by omega)).mono ?_
        rw [sameL_eq]
        rintro e w12 ⟨rfl, hb⟩
        have HD12 := Kp.mk (HD11.out.trans (hb.mono HD11.out.size))
        have HQ12 := Kp.mk (HQ11.out.below hb)
        have HR12 := Kp.mk (HR11.out.below hb)
        clear hb
        go_wp2_with fail
        refine (hall_any _ (hWo l [x]) ot _ HQ12.out HWS.out hwl ho5).mono ?_
        rw [hWo_other x ot hio l]
        rintro e w13 ⟨u, rfl, ho, hb⟩
        have HD13 := Kp.mk (HD12.out.trans (hb.mono HD12.out.size))
        have HR13 := Kp.mk (HR12.out.below hb)
        have HT13 := Kp.mk (rds_own ho)
        obtain ⟨a13, c13, rfl⟩ := own_lenH ho
        clear hb ho
        go_wp2_with fail
        refine (rssame_any _ _ (hAll l ot) (hAll l ot) _ HT13.out HR13.out (by omega) (by omega)).mono ?_
        rw [sameL_eq]
        rintro e w14 ⟨rfl, hb⟩
        have HD14 := Kp.mk (HD13.out.trans (hb.mono HD13.out.size))
        clear hb
        have HE14 := Kp.mk (HC.out.trans (HD14.out.mono (Nat.le_of_lt hlt)))
        go_wp2_with fail
        refine (lives10_any _).mono ?_
        rintro e wl ⟨rfl, hbl⟩
        have HBL := Kp.mk (HE14.out.trans (hbl.mono HE14.out.size))
        clear hbl
        go_wp2_with fail
        go_ret
        exact ⟨rfl, HBL.out⟩
      · rintro e w9 ⟨rfl, hb⟩
        have HD9 := Kp.mk (HD8.out.trans (hb.mono HD8.out.size))
        clear hb hd0
        have HE9 := Kp.mk (HC.out.trans (HD9.out.mono (Nat.le_of_lt hlt)))
        go_wp2_with fail
        refine (lives10_any _).mono ?_
        rintro e wl ⟨rfl, hbl⟩
        have HBL := Kp.mk (HE9.out.trans (hbl.mono HE9.out.size))
        clear hbl
        go_wp2_with fail
        go_ret
        exact ⟨rfl, HBL.out⟩
  · cases hfl : hFew l
    · go_wp2_with fail
      refine (lives10_any _).mono ?_
      rintro e wl ⟨rfl, hbl⟩
      have HBL := Kp.mk (HB1.out.trans (hbl.mono HB1.out.size))
      clear hbl
      go_wp2_with fail
      go_ret
      exact ⟨rfl, HBL.out⟩
    · by_cases hx1 : x.size ≤ 100
      · have q2 : ¬ (100 : Int) < (x.size : Int) := by omega
        by_cases hy1 : y.size ≤ 300
        · have q3 : ¬ (300 : Int) < (y.size : Int) := by omega
          by_cases ho1 : ot.size ≤ 100
          · exact absurd ⟨hfl, hx1, hy1, ho1⟩ hok
          · have q1 : (100 : Int) < (ot.size : Int) := by omega
            go_wp2_with fail
            refine (lives10_any _).mono ?_
            rintro e wl ⟨rfl, hbl⟩
            have HBL := Kp.mk (HB1.out.trans (hbl.mono HB1.out.size))
            clear hbl
            go_wp2_with fail
            go_ret
            exact ⟨rfl, HBL.out⟩
        · have q3 : (300 : Int) < (y.size : Int) := by omega
          go_wp2_with fail
          refine (lives10_any _).mono ?_
          rintro e wl ⟨rfl, hbl⟩
          have HBL := Kp.mk (HB1.out.trans (hbl.mono HB1.out.size))
          clear hbl
          go_wp2_with fail
          go_ret
          exact ⟨rfl, HBL.out⟩
      · have q2 : (100 : Int) < (x.size : Int) := by omega
        go_wp2_with fail
        refine (lives10_any _).mono ?_
        rintro e wl ⟨rfl, hbl⟩
        have HBL := Kp.mk (HB1.out.trans (hbl.mono HB1.out.size))
        clear hbl
        go_wp2_with fail
        go_ret
        exact ⟨rfl, HBL.out⟩
theorem hkeep_arg (v0 v1 v2 : Value) (w : World) (h0 : Arg Try.prog w 22 v0) (h1 : Arg Try.prog w 34 v1) (h2 : Arg Try.prog w 9 v2) :
    Calls Try.prog 5 #[v0, v1, v2] w fun e w' => e = .returned (.bool true) ∧ Below w.heap.size w w' := by
  obtain ⟨l, hv, hz⟩ := hlist_arg3 v0 w h0
  obtain ⟨x, y, rfl, hx, hy⟩ := fld_arg v1 w h1
  obtain ⟨ot, rfl, hot⟩ := h2.str Try.underlying9
  exact hkeep_walk v0 l x y ot w hv hz hx hy hot
end Go.Proofs.Ytaniokdgekgdkaa
