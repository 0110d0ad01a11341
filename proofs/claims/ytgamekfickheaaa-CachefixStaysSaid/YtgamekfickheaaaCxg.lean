/- What is said to caches of another version (layer 31): CachefixStays (bin/mkcxg.py). -/
import Derived.Test.YtgamekfickheaaaCxf
import Derived.Deep.RegionHeld3
import Derived.Deep.DeepCutAuto
namespace Go.Proofs.Ytgamekfickheaaa
open Go.RowKit
set_option linter.unusedVariables false
set_option linter.unusedSimpArgs false

/-- What the law keeps. -/
structure SX (w0 : World) (vl va vb : Value) (l A B : List Fld) (f t n : Int) (W : World) : Prop where
  tu : W.heap[w0.heap.size]? = some (.cells #[.int .i64 f, .int .i64 t, .int .i64 n] 38 (0, 0))
  rl : RdF W vl l
  ra : RdF W va A
  rb : RdF W vb B
  bel : Below w0.heap.size w0 W
theorem SX.below {w0 : World} {vl va vb : Value} {l A B : List Fld} {f t n : Int} {W W' : World} (h : SX w0 vl va vb l A B f t n W) (hb : Below W.heap.size W W') : SX w0 vl va vb l A B f t n W' :=
  ⟨(hb.block _ (blk_lt h.tu)).trans h.tu, h.rl.below hb, h.ra.below hb, h.rb.below hb, h.bel.trans (hb.mono h.bel.size)⟩
theorem rdf_sufF {w : World} {ad : Addr} {c k : Nat} {l : List Fld} (h : RdF w (.slice (some ad) l.length c) l) (hn : k ≤ l.length) : RdF w (.slice (some (ad.add (k * 2))) (l.length - k) (c - k)) (l.drop k) := by
  rcases Nat.eq_zero_or_pos (l.length - k) with h0 | h0
  · rw [h0, List.drop_eq_nil_of_le (by omega)]
    obtain ⟨_, _, e, q1, q2, _⟩ := h
    cases e
    exact RdL.nil (by omega)
  · obtain ⟨b, o, e, -⟩ := rdf_cells h (by omega)
    cases e
    rw [Addr.add_lit]
    exact rdf_suf h hn
theorem rdf_sufI {w : World} {a : Option Addr} {c k : Nat} {l : List Fld} (h : RdF w (.slice a l.length c) l) (hn : k ≤ l.length) : RdF w (.slice (if c = k then a else a.map (fun x => x.add (k * 2))) (l.length - k) (c - k)) (l.drop k) := by
  by_cases hc : c = k
  · rw [if_pos hc]
    obtain ⟨_, _, e, q1, q2, _⟩ := h
    cases e
    have h0 : l.length - k = 0 := by omega
    rw [h0, List.drop_eq_nil_of_le (by omega)]
    exact RdL.nil (by omega)
  · rw [if_neg hc]
    cases a with
    | none =>
      have h0 : l.length = 0 := by
        rcases Nat.eq_zero_or_pos l.length with h0 | h0
        · exact h0
        · obtain ⟨b, o, e9, -⟩ := rdf_cells h h0
          cases e9
      obtain ⟨_, _, e, q1, q2, _⟩ := h
      cases e
      have h1 : l.length - k = 0 := by omega
      rw [h1, List.drop_eq_nil_of_le (by omega)]
      exact RdL.nil (by omega)
    | some ad => exact rdf_sufF h hn
theorem sameL_F {α : Type} [DecidableEq α] (M : List α) : sameL M M = true := decide_eq_true rfl
theorem litF (W : World) {B : Nat} (hB : B ≤ W.heap.size) : (W.alloc (.cells #[] 35)).ownsRow B 35 2 (.slice (some ⟨W.heap.size, 0, none⟩) 0 0) 0 [] := by
  have := World.ownsRow_lit (base := B) (e := 35) (size := 2) W #[] 0 hB (by unfold maxLen; omega) rfl
  exact this
theorem wrapF (n : Int) (h1 : -9223372036854775808 ≤ n) (h2 : n ≤ 9223372036854775807) : IntKind.i64.wrap n = n := by
  simp [IntKind.wrap, IntKind.signed, IntKind.bits, wrap64]; omega
set_option maxRecDepth 100000 in
set_option maxHeartbeats 4000000 in
theorem cxstays_walk (v : Value) (l : List Fld) (f t n : Int) (w : World) (hv : RdF w v l) (hz : ∀ p ∈ l, FldOk p) (n0 : -9223372036854775808 ≤ n) (n1 : n ≤ 9223372036854775807) :
    Calls Try.prog 6 #[v, .agg #[.int .i64 f, .int .i64 t, .int .i64 n]] w fun e w' => e = .returned (.bool true) ∧ Below w.heap.size w w' := by
  have hT := heap_alloc_new w (.cells #[.int .i64 f, .int .i64 t, .int .i64 n] 38)
  have hB := (Below.refl w.heap.size w).alloc (Nat.le_refl _) (.cells #[.int .i64 f, .int .i64 t, .int .i64 n] 38)
  have HF1 := Kp.mk (few10_any v l _ (hv.below hB) hz)
  have HX := Kp.mk (show SX w v v v l l l f t n (w.alloc (.cells #[.int .i64 f, .int .i64 t, .int .i64 n] 38)) from ⟨hT, hv.below hB, hv.below hB, hv.below hB, hB⟩)
  clear hz hT hB
  cases hfl : hFew l
  · rw [hfl] at HF1
    clear hv
    go_enter Try.func6, Try.ntmps6
    go_wp2_with fail
    refine HF1.out.mono ?_
    rintro e w1 ⟨rfl, hb⟩
    have HB1 := Kp.mk (HX.out.bel.trans (hb.mono HX.out.bel.size))
    clear hb
    go_wp2_with fail
    refine (lives31_any _).mono ?_
    rintro e w9 ⟨rfl, hb9⟩
    have HB9 := Kp.mk (HB1.out.trans (hb9.mono HB1.out.size))
    clear hb9
    go_wp2_with fail
    go_ret
    exact ⟨rfl, HB9.out⟩
  · rw [hfl] at HF1
    have hF := fewF_of hfl
    have hl := (hFew_out hfl).1
    have hsm := (hFew_out hfl).2
    have fA := reqL_few f t hF hl
    have fB := resL_few f t n hF hl
    have C1 := Kp.mk (fun w v hv => cxreq_any v l f t w hv hF)
    have C2 := Kp.mk (fun w v hv => cxres_any v l f t n w hv hF n0 n1)
    have C3 := Kp.mk (fun w v hv => cxreq_any v (reqL l f t) f t w hv fA)
    have C4 := Kp.mk (fun w v hv => cxres_any v (resL l f t n) f t n w hv fB n0 n1)
    rw [reqL_again] at C3
    rw [resL_again] at C4
    have CC := Kp.mk (fun w v nm (hv : RdF w v l) (hn : nm.size ≤ 100000) => hcount_any v l nm w hv hsm (by omega) hn)
    obtain ⟨e1, he1, hp1⟩ := reqL_ex l f t
    obtain ⟨e2, he2, hp2⟩ := resL_ex l f t n
    have hl1 := reqL_len l f t
    have hl2 := resL_lenF l f t n
    have HE := Kp.mk (show ∀ p ∈ e1 ++ e2, (hAll l p.1).length = 0 ∧ p.2.size ≠ 0 ∧ p.1.size ≤ 100000 from fun p hp => by
      rcases List.mem_append.1 hp with hp | hp
      · obtain ⟨q1, q2⟩ := hp1 p hp
        have q3 := (fA.val p (by rw [he1]; exact List.mem_append_right _ hp)).1
        have q4 : ¬ 0 < (hAll l p.1).length := of_decide_eq_false q1
        exact ⟨by omega, q2, by omega⟩
      · obtain ⟨q1, q2⟩ := hp2 p hp
        have q3 := (fB.val p (by rw [he2]; exact List.mem_append_right _ hp)).1
        have q4 : ¬ 0 < (hAll l p.1).length := of_decide_eq_false q1
        exact ⟨by omega, q2, by omega⟩)
    have T1 := Kp.mk (show (reqL l f t).take l.length = l by rw [he1]; exact List.take_left' rfl)
    have T2 := Kp.mk (show (resL l f t n).take l.length = l by rw [he2]; exact List.take_left' rfl)
    have D1 := Kp.mk (show (reqL l f t).drop l.length = e1 by rw [he1]; exact List.drop_left' rfl)
    have D2 := Kp.mk (show (resL l f t n).drop l.length = e2 by rw [he2]; exact List.drop_left' rfl)
    have z1 : (reqL l f t).length = l.length + e1.length := by rw [he1, List.length_append]
    have z2 : (resL l f t n).length = l.length + e2.length := by rw [he2, List.length_append]
    have Z1 := Kp.mk z1
    have Z2 := Kp.mk z2
    have hz1 : e1.length ≤ 1 := by omega
    have hz2 : e2.length ≤ 2 := by omega
    unfold RetX at C1 C2 C3 C4
    clear he1 he2 hp1 hp2 fA fB z1 z2 n0 n1 hsm hfl hF
    generalize reqL l f t = M1 at *
    generalize resL l f t n = M2 at *
    obtain ⟨av, cv, rfl⟩ := rdf_form hv
    clear hv
    have hw1 : IntKind.i64.wrap ((l.length : Int) + 1) = (l.length : Int) + 1 := wrapF _ (by omega) (by omega)
    have hw2 : IntKind.i64.wrap ((l.length : Int) + 2) = (l.length : Int) + 2 := wrapF _ (by omega) (by omega)
    have g1 : ¬ (M1.length : Int) < (l.length : Int) := by omega
    have g2 : ¬ (M2.length : Int) < (l.length : Int) := by omega
    have g3 : ¬ (l.length : Int) + 1 < (M1.length : Int) := by omega
    have g4 : ¬ (l.length : Int) + 2 < (M2.length : Int) := by omega
    obtain ⟨hl1a, hl1b⟩ := hl1
    obtain ⟨hl2a, hl2b⟩ := hl2
    go_enter Try.func6, Try.ntmps6
    go_wp2_with fail
    refine HF1.out.mono ?_
    rintro e w1 ⟨rfl, hb⟩
    replace HX := Kp.mk (HX.out.below hb)
    clear hb HF1
    have t0 := blk_cell (i := 0) HX.out.tu rfl
    have t1 := blk_cell (i := 1) HX.out.tu rfl
    have t2 := blk_cell (i := 2) HX.out.tu rfl
    go_wp2_with fail
    refine (C1.out _ _ HX.out.rl).mono ?_
    rintro e w2 ⟨u1, rfl, hr, hb⟩
    have RA := Kp.mk hr
    obtain ⟨a1, c1, rfl⟩ := rdf_form hr
    replace HX := Kp.mk (HX.out.below hb)
    clear hb hr t0 t1 t2
    have t0 := blk_cell (i := 0) HX.out.tu rfl
    have t1 := blk_cell (i := 1) HX.out.tu rfl
    have t2 := blk_cell (i := 2) HX.out.tu rfl
    go_wp2_with fail
    refine (C2.out _ _ HX.out.rl).mono ?_
    rintro e w3 ⟨u2, rfl, hr, hb⟩
    have RB := Kp.mk hr
    obtain ⟨a2, c2, rfl⟩ := rdf_form hr
    replace HX := Kp.mk (show SX w (.slice av l.length cv) (.slice a1 M1.length c1) (.slice a2 M2.length c2) l M1 M2 f t n w3 from ⟨(HX.out.below hb).tu, (HX.out.below hb).rl, RA.out.below hb, hr, (HX.out.below hb).bel⟩)
    obtain ⟨_, _, q9, hc1, hc1m, -⟩ := RA.out
    cases q9
    obtain ⟨_, _, q9, hc2, hc2m, -⟩ := RB.out
    cases q9
    unfold maxLen at hc1m hc2m
    clear hb hr t0 t1 t2 RA RB C1 C2
    go_wp2_with fail
    refine (rfsame_any _ _ (M1.take l.length) l _ (HX.out.ra.preF hl1a) HX.out.rl (by rw [List.length_take]; omega) (by omega)).mono ?_
    rw [T1.out, sameL_F]
    rintro e w6 ⟨rfl, hb⟩
    replace HX := Kp.mk (HX.out.below hb)
    clear hb
    go_wp2_with fail
    refine (rfsame_any _ _ (M2.take l.length) l _ (HX.out.rb.preF hl2a) HX.out.rl (by rw [List.length_take]; omega) (by omega)).mono ?_
    rw [T2.out, sameL_F]
    rintro e w7 ⟨rfl, hb⟩
    replace HX := Kp.mk (HX.out.below hb)
    clear hb
    go_upto_region 7 with fail
    go_cut [83, 84, 85] (fun a b c wx => ∃ (ae : Option Addr) (ce : Nat), a = .slice ae (e1 ++ e2).length ce ∧ b = .int .i64 ((e1 ++ e2).length : Nat) ∧ c = .int .i64 0 ∧ RdF wx (.slice ae (e1 ++ e2).length ce) (e1 ++ e2) ∧ SX w (.slice av l.length cv) (.slice a1 M1.length c1) (.slice a2 M2.length c2) l M1 M2 f t n wx)
    case first =>
      have HB0 := Kp.mk (show Below w7.heap.size w7 (w7.drew.alloc (.cells #[] 35)) from (Below.refl _ _).drew.alloc (Nat.le_refl _) _)
      have HO0 := Kp.mk (litF w7.drew (B := w7.heap.size) (Nat.le_refl _))
      have RS1 := Kp.mk (show ∀ W, Below w7.heap.size w7 W → RdF W (.slice (if c1 = l.length then a1 else a1.map (fun x => x.add (l.length * 2))) (M1.length - l.length) (c1 - l.length)) e1 from fun W hW => by rw [← D1.out]; exact rdf_sufI (RdL.below HX.out.ra hW) (by omega))
      have RS2 := Kp.mk (show ∀ W, Below w7.heap.size w7 W → RdF W (.slice (if c2 = l.length then a2 else a2.map (fun x => x.add (l.length * 2))) (M2.length - l.length) (c2 - l.length)) e2 from fun W hW => by rw [← D2.out]; exact rdf_sufI (RdL.below HX.out.rb hW) (by omega))
      refine wp_region_held_drew (S := fun _ => True) (by kernel_rfl) (trivial) (fun hHeld => ?_)
      refine wpAnyH_take (i := 1) (oi := ⟨some 74, .move (.tmp 5), _, _, _, none⟩) (v := ?_) rfl (by kernel_rfl) (by kernel_rfl) (by kernel_rfl) (fun _ _ _ h => h) (Or.inl ⟨by rfl, ?_⟩) (by assumption) ?_
      rotate_left
      · intro w hSw
        try dsimp only at hSw
        go_simp
        try with_reducible rfl
      try simp only [Act.put, List.setIfInBounds_toArray, List.set_cons_zero, List.set_cons_succ]
      refine wpAnyH_take (i := 2) (oi := ⟨some 75, .move (.tmp 0), _, _, _, none⟩) (v := ?_) rfl (by kernel_rfl) (by kernel_rfl) (by kernel_rfl) (fun _ _ _ h => h) (Or.inl ⟨by rfl, ?_⟩) (by assumption) ?_
      rotate_left
      · intro w hSw
        try dsimp only at hSw
        go_simp
        try with_reducible rfl
      try simp only [Act.put, List.setIfInBounds_toArray, List.set_cons_zero, List.set_cons_succ]
      refine wpAnyH_take (i := 3) (oi := ⟨some 76, .call { callee := .builtin .len, args := #[.tmp 75], argTypes := #[28] }, _, _, _, none⟩) (v := ?_) rfl (by kernel_rfl) (by kernel_rfl) (by kernel_rfl) (fun _ _ _ h => h) (Or.inl ⟨by rfl, ?_⟩) (by assumption) ?_
      rotate_left
      · intro w hSw
        try dsimp only at hSw
        go_simp
        try with_reducible rfl
      try simp only [Act.put, List.setIfInBounds_toArray, List.set_cons_zero, List.set_cons_succ]
      refine wpAnyH_take (i := 4) (oi := ⟨some 77, .slice 28 (.tmp 74) (some (.tmp 76)) none none, _, _, _, none⟩) (v := ?_) rfl (by kernel_rfl) (by kernel_rfl) (by kernel_rfl) (fun _ _ _ h => h) (Or.inl ⟨by rfl, ?_⟩) (by assumption) ?_
      rotate_left
      · intro w hSw
        try dsimp only at hSw
        go_simp
        try with_reducible rfl
      try simp only [Act.put, List.setIfInBounds_toArray, List.set_cons_zero, List.set_cons_succ]
      refine wpAnyH_take (i := 6) (oi := ⟨some 79, .move (.tmp 6), _, _, _, none⟩) (v := ?_) rfl (by kernel_rfl) (by kernel_rfl) (by kernel_rfl) (fun _ _ _ h => h) (Or.inl ⟨by rfl, ?_⟩) (by assumption) ?_
      rotate_left
      · intro w hSw
        try dsimp only at hSw
        go_simp
        try with_reducible rfl
      try simp only [Act.put, List.setIfInBounds_toArray, List.set_cons_zero, List.set_cons_succ]
      refine wpAnyH_take (i := 7) (oi := ⟨some 80, .move (.tmp 0), _, _, _, none⟩) (v := ?_) rfl (by kernel_rfl) (by kernel_rfl) (by kernel_rfl) (fun _ _ _ h => h) (Or.inl ⟨by rfl, ?_⟩) (by assumption) ?_
      rotate_left
      · intro w hSw
        try dsimp only at hSw
        go_simp
        try with_reducible rfl
      try simp only [Act.put, List.setIfInBounds_toArray, List.set_cons_zero, List.set_cons_succ]
      refine wpAnyH_take (i := 8) (oi := ⟨some 81, .call { callee := .builtin .len, args := #[.tmp 80], argTypes := #[28] }, _, _, _, none⟩) (v := ?_) rfl (by kernel_rfl) (by kernel_rfl) (by kernel_rfl) (fun _ _ _ h => h) (Or.inl ⟨by rfl, ?_⟩) (by assumption) ?_
      rotate_left
      · intro w hSw
        try dsimp only at hSw
        go_simp
        try with_reducible rfl
      try simp only [Act.put, List.setIfInBounds_toArray, List.set_cons_zero, List.set_cons_succ]
      refine wpAnyH_take (i := 9) (oi := ⟨some 82, .slice 28 (.tmp 79) (some (.tmp 81)) none none, _, _, _, none⟩) (v := ?_) rfl (by kernel_rfl) (by kernel_rfl) (by kernel_rfl) (fun _ _ _ h => h) (Or.inl ⟨by rfl, ?_⟩) (by assumption) ?_
      rotate_left
      · intro w hSw
        try dsimp only at hSw
        go_simp
        try with_reducible rfl
      try simp only [Act.put, List.setIfInBounds_toArray, List.set_cons_zero, List.set_cons_succ]
      refine wpAnyH_take (i := 12) (oi := ⟨some 85, .move (.const (.int .i64 0)), _, _, _, none⟩) (v := ?_) rfl (by kernel_rfl) (by kernel_rfl) (by kernel_rfl) (fun _ _ _ h => h) (Or.inl ⟨by rfl, ?_⟩) (by assumption) ?_
      rotate_left
      · intro w hSw
        try dsimp only at hSw
        go_simp
        try with_reducible rfl
      try simp only [Act.put, List.setIfInBounds_toArray, List.set_cons_zero, List.set_cons_succ]
      refine wpAnyH_ready (rs := [0]) (by kernel_rfl) (by simp) ?_
      refine AllReadyH.cons (o := ⟨some 73, _, _, _, _, none⟩) rfl (fun K hK => ?_) AllReadyH.nil
      go_simp
      refine hK.out _ _ (trivial) (fun hHeld2 => ?_)
      clear hK K
      try simp only [Act.put, List.setIfInBounds_toArray, List.set_cons_zero, List.set_cons_succ]
      refine wpAnyH_ready (rs := [5]) (by kernel_rfl) (by simp) ?_
      refine AllReadyH.cons (o := ⟨some 78, _, _, _, _, none⟩) rfl (fun K hK => ?_) AllReadyH.nil
      apply op_app_fldsF (s := .tmp 73) (x := .tmp 77) (t := 28) (e := 35) (B := w7.heap.size) (v := .slice (some ⟨w7.heap.size, 0, none⟩) 0 0) (n := 0) (xs := []) (hown := HO0.out) (vx := .slice (if c1 = l.length then a1 else a1.map (fun x => x.add (l.length * 2))) (M1.length - l.length) (c1 - l.length)) (l := e1) (hv := (RS1.out _ HB0.out)) (hi := Try.infoFH) (ht := Try.underlying28) (hlen := by omega) (hm := by unfold maxLen; omega) (hB := HB0.out.size)
      all_goals (try (first | rfl | decide))
      intro v21 w21 h1 h2
      rw [Nat.zero_add, List.nil_append] at h1
      have HB1 := Kp.mk (HB0.out.grown h2 HB0.out.size (fun k hk => by simp [Value.ownBlock] at hk; omega))
      have HO1 := Kp.mk h1
      clear h1 h2
      obtain ⟨ad1, cd1, rfl⟩ := own_lenH HO1.out
      refine hK.out _ _ (trivial) (fun hHeld2 => ?_)
      clear hK K
      try simp only [Act.put, List.setIfInBounds_toArray, List.set_cons_zero, List.set_cons_succ]
      refine wpAnyH_ready (rs := [10]) (by kernel_rfl) (by simp) ?_
      refine AllReadyH.cons (o := ⟨some 83, _, _, _, _, none⟩) rfl (fun K hK => ?_) AllReadyH.nil
      apply op_app_fldsF (s := .tmp 78) (x := .tmp 82) (t := 28) (e := 35) (B := w7.heap.size) (v := .slice ad1 e1.length cd1) (n := e1.length) (xs := fvH e1) (hown := HO1.out) (vx := .slice (if c2 = l.length then a2 else a2.map (fun x => x.add (l.length * 2))) (M2.length - l.length) (c2 - l.length)) (l := e2) (hv := (RS2.out _ HB1.out)) (hi := Try.infoFH) (ht := Try.underlying28) (hlen := by omega) (hm := by unfold maxLen; omega) (hB := HB1.out.size)
      all_goals (try (first | rfl | decide))
      intro v22 w22 h1 h2
      have HB2 := Kp.mk (HB1.out.grown h2 HB1.out.size (fun k hk => (HO1.out.lt k hk).1))
      rw [← fvH_app, ← List.length_append] at h1
      have HO2 := Kp.mk h1
      clear h1 h2
      obtain ⟨ad2, cd2, rfl⟩ := own_lenH HO2.out
      refine hK.out _ _ (trivial) (fun hHeld2 => ?_)
      clear hK K
      try simp only [Act.put, List.setIfInBounds_toArray, List.set_cons_zero, List.set_cons_succ]
      refine wpAnyH_take (i := 11) (oi := ⟨some 84, .call { callee := .builtin .len, args := #[.tmp 83], argTypes := #[28] }, _, _, _, none⟩) (v := ?_) rfl (by kernel_rfl) (by kernel_rfl) (by kernel_rfl) (fun _ _ _ h => h) (Or.inl ⟨by rfl, ?_⟩) (by assumption) ?_
      rotate_left
      · intro w hSw
        try dsimp only at hSw
        go_simp
        try with_reducible rfl
      try simp only [Act.put, List.setIfInBounds_toArray, List.set_cons_zero, List.set_cons_succ]
      refine wpAnyH_done (by kernel_rfl) ?_ _
      generalize (if c1 = l.length then a1 else a1.map (fun x => x.add (l.length * 2))) = qa at *
      generalize (if c2 = l.length then a2 else a2.map (fun x => x.add (l.length * 2))) = qb at *
      go_wp2_with fail
      go_meet
      exact ⟨ad2, cd2, by first | rfl | simp, by first | rfl | simp, rfl, rdf_own HO2.out, HX.out.below HB2.out⟩
    case rest =>
      obtain ⟨ae, ce, rfl, rfl, rfl, hre, hx⟩ := hcut
      replace HX := Kp.mk hx
      have HRE := Kp.mk hre
      have hEl : (e1 ++ e2).length ≤ 3 := by rw [List.length_append]; omega
      clear hx hre D1 D2 T1 T2 Z1 Z2 hz1 hz2
      generalize e1 ++ e2 = E at *
      go_wp2_with fail
      go_loopw [85] (fun i wr => ∃ k : Nat, k ≤ E.length ∧ i = .int .i64 k ∧ SX w (.slice av l.length cv) (.slice a1 M1.length c1) (.slice a2 M2.length c2) l M1 M2 f t n wr ∧ RdF wr (.slice ae E.length ce) E) (fun i _ => E.length - (intOf i).toNat)
      case atStart => exact ⟨0, by omega, rfl, HX.out, HRE.out⟩
      case round =>
        obtain ⟨k, hk, rfl, hx, hre⟩ := hrel
        replace HX := Kp.mk hx
        replace HRE := Kp.mk hre
        clear hx
        by_cases hlt : k < E.length
        · obtain ⟨g, o, rfl, hgl, d0⟩ := rdf_cells hre (by omega)
          obtain ⟨d1, d2⟩ := d0 k hlt
          obtain ⟨m1, m2, m3⟩ := HE.out E[k] (List.getElem_mem hlt)
          have q0 : (0 : Int) ≤ (k : Int) := by omega
          have q1 : (k : Int) < (E.length : Int) := by omega
          clear d0 hre
          generalize E[k] = p at *
          obtain ⟨x, y⟩ := p
          simp only at d1 d2 m1 m2 m3
          obtain ⟨t1, t2⟩ := emp_neX m2
          have H1 := Kp.mk m1
          clear m1 m2
          have HKN := Kp.mk (heap_alloc_new wr (.cells #[.string x, .string y] 35))
          have HXa := Kp.mk (HX.out.below ((Below.refl wr.heap.size wr).alloc (Nat.le_refl _) (.cells #[.string x, .string y] 35)))
          have HRa := Kp.mk (HRE.out.below ((Below.refl wr.heap.size wr).alloc (Nat.le_refl _) (.cells #[.string x, .string y] 35)))
          have n9 : ((0 : Nat) : Int) = 0 := rfl
          go_wp2_with fail
          refine (CC.out _ _ x HXa.out.rl m3).mono ?_
          rintro e v1 ⟨rfl, hb1⟩
          rw [H1.out]
          have HX2 := Kp.mk (HXa.out.below hb1)
          have HR2 := Kp.mk (HRa.out.below hb1)
          have s1 := blk_cell (i := 1) ((hb1.block wr.heap.size (by simp)).trans HKN.out) rfl
          clear hb1 d1 d2
          go_wp2_with fail
          go_roundw
          case rel => exact ⟨k + 1, by omega, by go_num, HX2.out, HR2.out⟩
          case measure => simp [intOf]; omega
        · have q2 : ¬ (k : Int) < (E.length : Int) := by omega
          clear hre HRE
          have s0 := blk_cell (i := 0) HX.out.tu rfl
          have s1 := blk_cell (i := 1) HX.out.tu rfl
          have s2 := blk_cell (i := 2) HX.out.tu rfl
          go_wp2_with fail
          refine (C3.out _ _ HX.out.ra).mono ?_
          rintro e v1 ⟨u, rfl, hr, hb⟩
          have RA := Kp.mk (hr)
          obtain ⟨a8, c8, rfl⟩ := rdf_form hr
          replace HX := Kp.mk (HX.out.below hb)
          clear hr hb s0 s1 s2
          have s0 := blk_cell (i := 0) HX.out.tu rfl
          have s1 := blk_cell (i := 1) HX.out.tu rfl
          have s2 := blk_cell (i := 2) HX.out.tu rfl
          go_wp2_with fail
          refine (rfsame_any _ _ M1 M1 _ RA.out HX.out.ra (by omega) (by omega)).mono ?_
          rw [sameL_F]
          rintro e v2 ⟨rfl, hb⟩
          replace HX := Kp.mk (HX.out.below hb)
          clear hb RA s0 s1 s2
          have s0 := blk_cell (i := 0) HX.out.tu rfl
          have s1 := blk_cell (i := 1) HX.out.tu rfl
          have s2 := blk_cell (i := 2) HX.out.tu rfl
          go_wp2_with fail
          refine (C4.out _ _ HX.out.rb).mono ?_
          rintro e v3 ⟨u, rfl, hr, hb⟩
          have RB := Kp.mk (hr)
          obtain ⟨a9, c9, rfl⟩ := rdf_form hr
          replace HX := Kp.mk (HX.out.below hb)
          clear hr hb s0 s1 s2
          go_wp2_with fail
          refine (rfsame_any _ _ M2 M2 _ RB.out HX.out.rb (by omega) (by omega)).mono ?_
          rw [sameL_F]
          rintro e v4 ⟨rfl, hb⟩
          replace HX := Kp.mk (HX.out.below hb)
          clear hb RB
          go_wp2_with fail
          refine (lives31_any _).mono ?_
          rintro e v5 ⟨rfl, hb⟩
          have HB9 := Kp.mk (HX.out.bel.trans (hb.mono HX.out.bel.size))
          clear hb
          go_wp2_with fail
          go_ret
          exact ⟨rfl, HB9.out⟩
set_option maxRecDepth 100000 in
theorem cxstays_arg (v0 v1 : Value) (w : World) (h0 : Arg Try.prog w 28 v0) (h1 : Arg Try.prog w 38 v1) :
    Calls Try.prog 6 #[v0, v1] w fun e w' => e = .returned (.bool true) ∧ Below w.heap.size w w' := by
  obtain ⟨l, hv, hz⟩ := hlist_cx v0 w h0
  obtain ⟨f, t, n, rfl, wn⟩ := turn_arg v1 w h1
  obtain ⟨x0, x1⟩ := bounds_i64 wn
  exact cxstays_walk v0 l f t n w hv hz x0 x1
end Go.Proofs.Ytgamekfickheaaa
