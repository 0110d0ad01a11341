/- What is said to caches of another version (layer 31): the program's Response (bin/mkcxc.py). -/
import Derived.Test.YtgamekfickheaaaGreatCxb
namespace Go.Proofs.YtgamekfickheaaaGreat
open Go.RowKit
set_option linter.unusedVariables false
set_option linter.unusedSimpArgs false

theorem wrapX (x : Int) : -9223372036854775808 ≤ IntKind.i64.wrap x ∧ IntKind.i64.wrap x ≤ 9223372036854775807 := by
  simp [IntKind.wrap, IntKind.signed, IntKind.bits, wrap64]; omega
theorem rdf_onl {bx : Nat} {v : Value} {l : List Fld} {W W' : World} (ho : Onl bx none W W') (h : RdF W v l) (nv : 0 < l.length → v.ownBlock ≠ some bx) : RdF W' v l := by
  rcases Nat.eq_zero_or_pos l.length with h0 | h0
  · obtain ⟨a, c, h1, h2, h3, _⟩ := h
    exact ⟨a, c, h1, h2, h3, fun h => by omega⟩
  · exact ho.rdl h (nv h0) (fun _ _ => by simp)
/-- The boxes that Response keeps. -/
structure RX (w0 : World) (k4 k7 k13 k14 bx : Nat) (v u : Value) (l m : List Fld) (now : Int) (held : Bool) (age : Int) (W : World) : Prop where
  h4 : W.heap[k4]? = some (.cells #[v] 22 (0, 0))
  h7 : W.heap[k7]? = some (.cells #[.int .i64 now] 3 (0, 0))
  h13 : W.heap[k13]? = some (.cells #[.bool held] 4 (0, 0))
  h14 : W.heap[k14]? = some (.cells #[.int .i64 age] 3 (0, 0))
  mx : MX bx u m W
  rd : RdF W v l
  nv : 0 < l.length → v.ownBlock ≠ some bx
  n4 : k4 ≠ bx
  n7 : k7 ≠ bx
  n13 : k13 ≠ bx
  n14 : k14 ≠ bx
  lo : w0.heap.size ≤ bx
  bel : Below w0.heap.size w0 W
theorem RX.below {w0 : World} {k4 k7 k13 k14 bx : Nat} {v u : Value} {l m : List Fld} {now : Int} {held : Bool} {age : Int} {W W' : World} (h : RX w0 k4 k7 k13 k14 bx v u l m now held age W) (hb : Below W.heap.size W W') : RX w0 k4 k7 k13 k14 bx v u l m now held age W' :=
  ⟨(hb.block _ (blk_lt h.h4)).trans h.h4, (hb.block _ (blk_lt h.h7)).trans h.h7, (hb.block _ (blk_lt h.h13)).trans h.h13, (hb.block _ (blk_lt h.h14)).trans h.h14, h.mx.below hb, h.rd.below hb, h.nv, h.n4, h.n7, h.n13, h.n14, h.lo, h.bel.trans (hb.mono h.bel.size)⟩
theorem RX.add {w0 : World} {k4 k7 k13 k14 bx : Nat} {v u u' : Value} {l m m' : List Fld} {now : Int} {held : Bool} {age : Int} {W W' : World} (h : RX w0 k4 k7 k13 k14 bx v u l m now held age W) (ho : Onl bx none W W') (hm : MX bx u' m' W') : RX w0 k4 k7 k13 k14 bx v u' l m' now held age W' :=
  ⟨ho.heap h.h4 h.n4 (by simp), ho.heap h.h7 h.n7 (by simp), ho.heap h.h13 h.n13 (by simp), ho.heap h.h14 h.n14 (by simp), hm, rdf_onl ho h.rd h.nv, h.nv, h.n4, h.n7, h.n13, h.n14, h.lo, onl_bel ho h.bel h.lo⟩
theorem len_prtX (n : Int) : (prtB n).size ≤ 1000 := by
  unfold prtB
  split
  · rw [ofL_size]
    have h := wd3_len _ (wkN_lt n)
    have h2 : (moS (dyM n - 1).toNat).data.toList.length ≤ 9 := by have := moS_le (dyM n - 1).toNat; rw [ba_size'] at this; omega
    have a := padL_len (dyD n) 2
    have b := padL_len (dyY n) 4
    have c := padL_len (dH n) 2
    have d := padL_len (dM n) 2
    have e := padL_len (dS n) 2
    simp only [pcAcc, pcL, List.length_append, List.length_cons, List.length_nil]
    omega
  · exact Nat.zero_le _
theorem expV_size (l : List Fld) (now : Int) : (expV l now).size ≤ 1000 := by unfold expV; split <;> exact len_prtX _
theorem freV_size (l : List Fld) (now : Int) : (freV l now).size ≤ 1000 := by
  unfold freV
  split
  · rw [ByteArray.size_append, ofL_size]
    have := textL_len (staI l now)
    have h : vMX.size = 8 := rfl
    omega
  · exact Nat.zero_le _
theorem basI_range (l : List Fld) (now : Int) (n0 : -9223372036854775808 ≤ now) (n1 : now ≤ 9223372036854775807) : -9223372036854775808 ≤ basI l now ∧ basI l now ≤ 9223372036854775807 := by
  unfold basI
  split
  · rename_i h; have := datS_ok h; omega
  · exact ⟨n0, n1⟩
set_option maxRecDepth 100000 in
set_option maxHeartbeats 600000 in
theorem cxr1_any (k4 k7 k13 k14 : Nat) (v : Value) (l : List Fld) (now : Int) (w : World) (h4 : w.heap[k4]? = some (.cells #[v] 22 (0, 0))) (h7 : w.heap[k7]? = some (.cells #[.int .i64 now] 3 (0, 0))) (h13 : w.heap[k13]? = some (.cells #[.bool (cHd l)] 4 (0, 0))) (h14 : w.heap[k14]? = some (.cells #[.int .i64 (ageR (ccD l)).1] 3 (0, 0)))
    (hv : RdF w v l) (hF : FewF l) (n0 : -9223372036854775808 ≤ now) (n1 : now ≤ 9223372036854775807) :
    Calls Tryz.prog 21 #[.pointer (some ⟨k4, 0, none⟩), .pointer (some ⟨k7, 0, none⟩), .pointer (some ⟨k13, 0, none⟩), .pointer (some ⟨k14, 0, none⟩)] w fun e w' => e = .returned (.string (expV l now)) ∧ Below w.heap.size w w' := by
  have C1 := Kp.mk (cxdated_any v l nmDT now w hv hF (by decide) n0 n1)
  have hbr := basI_range l now n0 n1
  have hwr := wrapX (basI l now + (ageR (ccD l)).1)
  have P1 := Kp.mk (fun w => hprint_any (basI l now) w hbr.1 hbr.2)
  have P2 := Kp.mk (fun w => hprint_any (IntKind.i64.wrap (basI l now + (ageR (ccD l)).1)) w hwr.1 hwr.2)
  have HE := Kp.mk (show expV l now = if cHd l = true then prtB (basI l now) else prtB (IntKind.i64.wrap (basI l now + (ageR (ccD l)).1)) from rfl)
  have HB := Kp.mk (show basI l now = if (datS l nmDT now).2 = true then (datS l nmDT now).1 else now from rfl)
  have K13 := Kp.mk h13
  have K14 := Kp.mk h14
  have K7 := Kp.mk h7
  obtain ⟨av, cv, rfl⟩ := rdf_form hv
  have c4 := blk_cell (i := 0) h4 rfl
  have c7 := blk_cell (i := 0) h7 rfl
  clear h4 h7 h13 h14 hv hF hbr hwr n0 n1
  generalize expV l now = E at *
  generalize prtB (IntKind.i64.wrap (basI l now + (ageR (ccD l)).1)) = S2 at *
  generalize prtB (basI l now) = S1 at *
  generalize basI l now = bs at *
  generalize (ageR (ccD l)).1 = ag at *
  generalize hw9 : IntKind.i64.wrap (bs + ag) = W9 at *
  generalize datS l nmDT now = D at *
  generalize cHd l = hd at *
  obtain ⟨d1, d2⟩ := D
  go_enter Tryz.func21, Tryz.ntmps21
  go_wp2_with fail
  refine C1.out.mono ?_
  rintro e w1 ⟨rfl, hb1⟩
  have HB1 := Kp.mk hb1
  have e13 := blk_cell (i := 0) ((hb1.block _ (blk_lt K13.out)).trans K13.out) rfl
  have e14 := blk_cell (i := 0) ((hb1.block _ (blk_lt K14.out)).trans K14.out) rfl
  have e7 := blk_cell (i := 0) ((hb1.block _ (blk_lt K7.out)).trans K7.out) rfl
  clear hb1 c4 c7
  cases d2
  · obtain rfl : bs = now := HB.out
    cases hd
    · obtain rfl : E = S2 := HE.out
      go_wp2_with fail
      refine (P2.out _).mono ?_
      rintro e w2 ⟨rfl, hb2⟩
      have HB2 := Kp.mk (HB1.out.trans (hb2.mono HB1.out.size))
      clear hb2
      go_wp2_with fail
      go_ret
      exact ⟨rfl, HB2.out⟩
    · obtain rfl : E = S1 := HE.out
      go_wp2_with fail
      refine (P1.out _).mono ?_
      rintro e w2 ⟨rfl, hb2⟩
      have HB2 := Kp.mk (HB1.out.trans (hb2.mono HB1.out.size))
      clear hb2
      go_wp2_with fail
      go_ret
      exact ⟨rfl, HB2.out⟩
  · obtain rfl : bs = d1 := HB.out
    cases hd
    · obtain rfl : E = S2 := HE.out
      go_wp2_with fail
      refine (P2.out _).mono ?_
      rintro e w2 ⟨rfl, hb2⟩
      have HB2 := Kp.mk (HB1.out.trans (hb2.mono HB1.out.size))
      clear hb2
      go_wp2_with fail
      go_ret
      exact ⟨rfl, HB2.out⟩
    · obtain rfl : E = S1 := HE.out
      go_wp2_with fail
      refine (P1.out _).mono ?_
      rintro e w2 ⟨rfl, hb2⟩
      have HB2 := Kp.mk (HB1.out.trans (hb2.mono HB1.out.size))
      clear hb2
      go_wp2_with fail
      go_ret
      exact ⟨rfl, HB2.out⟩
set_option maxRecDepth 100000 in
set_option maxHeartbeats 1000000 in
theorem cxr2_any (k4 k7 : Nat) (v : Value) (l : List Fld) (now : Int) (w : World) (h4 : w.heap[k4]? = some (.cells #[v] 22 (0, 0))) (h7 : w.heap[k7]? = some (.cells #[.int .i64 now] 3 (0, 0)))
    (hv : RdF w v l) (hF : FewF l) (n0 : -9223372036854775808 ≤ now) (n1 : now ≤ 9223372036854775807) :
    Calls Tryz.prog 24 #[.pointer (some ⟨k4, 0, none⟩), .pointer (some ⟨k7, 0, none⟩)] w fun e w' => e = .returned (.string (freV l now)) ∧ Below w.heap.size w w' := by
  have C1 := Kp.mk (cxfresh_any v l now w hv hF n0 n1)
  obtain ⟨av, cv, rfl⟩ := rdf_form hv
  have c4 := blk_cell (i := 0) h4 rfl
  have c7 := blk_cell (i := 0) h7 rfl
  clear h4 h7 hv hF n0 n1
  generalize freV l now = E at *
  go_enter Tryz.func24, Tryz.ntmps24
  go_wp2_with fail
  refine C1.out.mono ?_
  rintro e w1 ⟨rfl, hb1⟩
  have HB1 := Kp.mk hb1
  clear hb1
  go_wp2_with fail
  go_ret
  exact ⟨rfl, HB1.out⟩
/-- What Response has before its boxes are all there. -/
structure RY (w0 : World) (k4 k7 bx : Nat) (v u : Value) (l : List Fld) (now : Int) (W : World) : Prop where
  h4 : W.heap[k4]? = some (.cells #[v] 22 (0, 0))
  h7 : W.heap[k7]? = some (.cells #[.int .i64 now] 3 (0, 0))
  mx : MX bx u l W
  rd : RdF W v l
  nv : 0 < l.length → v.ownBlock ≠ some bx
  n4 : k4 ≠ bx
  n7 : k7 ≠ bx
  lo : w0.heap.size ≤ bx
  bel : Below w0.heap.size w0 W
theorem RY.below {w0 : World} {k4 k7 bx : Nat} {v u : Value} {l : List Fld} {now : Int} {W W' : World} (h : RY w0 k4 k7 bx v u l now W) (hb : Below W.heap.size W W') : RY w0 k4 k7 bx v u l now W' :=
  ⟨(hb.block _ (blk_lt h.h4)).trans h.h4, (hb.block _ (blk_lt h.h7)).trans h.h7, h.mx.below hb, h.rd.below hb, h.nv, h.n4, h.n7, h.lo, h.bel.trans (hb.mono h.bel.size)⟩
theorem RY.full {w0 : World} {k4 k7 k13 bx : Nat} {v u : Value} {l : List Fld} {now age : Int} {held : Bool} {W : World} (h : RY w0 k4 k7 bx v u l now W) (hk : W.heap[k13]? = some (.cells #[.bool held] 4 (0, 0))) (hn : k13 ≠ bx) : RX w0 k4 k7 k13 W.heap.size bx v u l l now held age (W.alloc (.cells #[.int .i64 age] 3)) := by
  have h2 := h.below ((Below.refl W.heap.size W).alloc (Nat.le_refl _) (.cells #[.int .i64 age] 3))
  exact ⟨h2.h4, h2.h7, blk_alloc hk, heap_alloc_new W _, h2.mx, h2.rd, h2.nv, h2.n4, h2.n7, hn, by have := blk_lt h.mx.hb; omega, h2.lo, h2.bel⟩
set_option maxRecDepth 100000 in
set_option maxHeartbeats 8000000 in
theorem cxres_any (v : Value) (l : List Fld) (f t now : Int) (w : World) (hv : RdF w v l) (hF : FewF l) (n0 : -9223372036854775808 ≤ now) (n1 : now ≤ 9223372036854775807) :
    Calls Tryz.prog 10 #[v, .int .i64 f, .int .i64 t, .int .i64 now] w (RetX (resL l f t now) w) := by
  have HF := Kp.mk hF
  have hl := hF.len
  have hvz : (hJoin (hAll l nmCC)).size ≤ 50100 := hF.comb nmCC
  have HR := Kp.mk (show resL l f t now = adL (adL (adL (adL l ((decide (0 < f) && decide (t ≤ 0)) && cHd l) nmPR vNC) ((decide (0 < f) && decide (t ≤ 0)) && (cHd l || (ageR (ccD l)).2)) nmEX (expV l now)) ((decide (f ≤ 0) && decide (0 < t)) && cPr l) nmCC vNC) (decide (f ≤ 0) && decide (0 < t)) nmCC (freV l now) from rfl)
  have C0 := Kp.mk (fun w v hv => show Calls Tryz.prog 13 #[v] w fun e w' => e = .returned (.bool (cPr l)) ∧ Below w.heap.size w w' from cprag_any v l w hv hF)
  have CH := Kp.mk (fun nm (hn : nm.size ≤ 1000000) w v hv => show Calls Tryz.prog 15 #[v, .string nm] w fun e w' => e = .returned (.bool (cHas l nm)) ∧ Below w.heap.size w w' from chas21_any v l nm w hv hF hn)
  have CA := Kp.mk (fun w v hv => cage_any v l w hv hF (fun d hd => by have := prs_vals (v := hJoin (hAll l nmCC)) d hd; omega))
  have CL1 := Kp.mk (fun k4 k7 k13 k14 v w h4 h7 h13 h14 hv => cxr1_any k4 k7 k13 k14 v l now w h4 h7 h13 h14 hv hF n0 n1)
  have CL2 := Kp.mk (fun k4 k7 v w h4 h7 hv => cxr2_any k4 k7 v l now w h4 h7 hv hF n0 n1)
  have HHD := Kp.mk (show cHd l = (cHas l vNC || (cHas l vNS || cHas l vPV)) from rfl)
  have hez := expV_size l now
  have hfz := freV_size l now
  have SM0 := Kp.mk hF.sm
  have HV := Kp.mk hv
  obtain ⟨av, cv, rfl⟩ := rdf_form hv
  have k4b := heap_alloc_new w (.cells #[.slice av l.length cv] 22)
  have k7b := heap_alloc_new (w.alloc (.cells #[.slice av l.length cv] 22)) (.cells #[.int .i64 now] 3)
  rw [World.size_alloc] at k7b
  have hbb := ((Below.refl w.heap.size w).alloc (Nat.le_refl _) (.cells #[.slice av l.length cv] 22)).alloc (by simp) (.cells #[.int .i64 now] 3)
  have K4 := Kp.mk (blk_alloc (o2 := .cells #[.int .i64 now] 3) k4b)
  have K7 := Kp.mk k7b
  have HB0 := Kp.mk hbb
  have HNV := Kp.mk (show ∀ k, (Value.slice av l.length cv).ownBlock = some k → 0 < l.length → k < w.heap.size from fun k hk h0 => by
    obtain ⟨b, o, e, hb, -⟩ := rdf_cells hv h0
    cases e
    cases hk
    exact hb)
  clear hv hF n0 n1 hvz k4b k7b hbb
  generalize resL l f t now = RL at *
  generalize expV l now = EV at *
  generalize freV l now = FV at *
  generalize (ageR (ccD l)).2 = aged at *
  unfold RetX
  go_enter Tryz.func10, Tryz.ntmps10
  go_wp2_with fail
  generalize hW0 : ((w.alloc (.cells #[.slice av l.length cv] 22)).alloc (.cells #[.int .i64 now] 3)) = W0 at *
  refine (cxadded_any _ l _ (HV.out.below HB0.out) (by omega)).mono ?_
  rintro e w1 ⟨bx, u, rfl, hm, hlo, hb⟩
  have HZ0 := Kp.mk (show w.heap.size + 2 ≤ W0.heap.size by rw [← hW0]; simp)
  clear hW0
  have HY := Kp.mk (show RY w w.heap.size (w.heap.size + 1) bx (.slice av l.length cv) u l now w1 from ⟨(hb.block _ (blk_lt K4.out)).trans K4.out, (hb.block _ (blk_lt K7.out)).trans K7.out, hm, (HV.out.below HB0.out).below hb, fun h0 hk => by have h1 := HNV.out _ hk h0; have h2 := HZ0.out; omega, by have := HZ0.out; omega, by have := HZ0.out; omega, by have := HZ0.out; omega, HB0.out.trans (hb.mono HB0.out.size)⟩)
  clear hm hlo hb K4 K7 HB0 HV HNV HZ0
  have hfm : (¬ 0 < f ↔ f ≤ 0) ∧ (¬ t ≤ 0 ↔ 0 < t) := by omega
  go_upto_region 2 with fail
  go_cut [11, 12] (fun a b wx => a = .bool (decide (0 < f) && decide (t ≤ 0)) ∧ b = .bool (decide (f ≤ 0) && decide (0 < t)) ∧ RY w w.heap.size (w.heap.size + 1) bx (.slice av l.length cv) u l now wx)
  case first =>
    by_cases hf : f ≤ 0
    · by_cases ht : 0 < t
      · have a1 : ¬ 0 < f := by omega
        have a2 : ¬ t ≤ 0 := by omega
        have HA := Kp.mk (show (decide (0 < f) && decide (t ≤ 0)) = false ∧ (decide (f ≤ 0) && decide (0 < t)) = true by simp [hf, ht, a1, a2])
        go_wp2_with fail
        go_meet
        exact ⟨by rw [HA.out.1], by rw [HA.out.2], HY.out⟩
      · have a1 : ¬ 0 < f := by omega
        have a2 : t ≤ 0 := by omega
        have HA := Kp.mk (show (decide (0 < f) && decide (t ≤ 0)) = false ∧ (decide (f ≤ 0) && decide (0 < t)) = false by simp [hf, ht, a1, a2])
        go_wp2_with fail
        go_meet
        exact ⟨by rw [HA.out.1], by rw [HA.out.2], HY.out⟩
    · by_cases ht : 0 < t
      · have a1 : 0 < f := by omega
        have a2 : ¬ t ≤ 0 := by omega
        have HA := Kp.mk (show (decide (0 < f) && decide (t ≤ 0)) = false ∧ (decide (f ≤ 0) && decide (0 < t)) = false by simp [hf, ht, a1, a2])
        go_wp2_with fail
        go_meet
        exact ⟨by rw [HA.out.1], by rw [HA.out.2], HY.out⟩
      · have a1 : 0 < f := by omega
        have a2 : t ≤ 0 := by omega
        have HA := Kp.mk (show (decide (0 < f) && decide (t ≤ 0)) = true ∧ (decide (f ≤ 0) && decide (0 < t)) = false by simp [hf, ht, a1, a2])
        go_wp2_with fail
        go_meet
        exact ⟨by rw [HA.out.1], by rw [HA.out.2], HY.out⟩
  case rest =>
    obtain ⟨rfl, rfl, hY⟩ := hcut
    have hDU : ¬ ((decide (0 < f) && decide (t ≤ 0)) = true ∧ (decide (f ≤ 0) && decide (0 < t)) = true) := by
      simp; omega
    replace HY := Kp.mk hY
    clear hY hfm
    generalize (decide (0 < f) && decide (t ≤ 0)) = D at *
    generalize (decide (f ≤ 0) && decide (0 < t)) = U at *
    go_upto_region 3 with fail
    go_cut [13] (fun a wx => ∃ k13 : Nat, a = .pointer (some ⟨k13, 0, none⟩) ∧ k13 ≠ bx ∧ wx.heap[k13]? = some (.cells #[.bool (cHd l)] 4 (0, 0)) ∧ RY w w.heap.size (w.heap.size + 1) bx (.slice av l.length cv) u l now wx)
    case first =>
      have c4 := blk_cell (i := 0) HY.out.h4 rfl
      go_wp2_with fail
      refine (CH.out vNC (by decide) _ _ HY.out.rd).mono ?_
      rintro e w2 ⟨rfl, hb⟩
      have HY2 := Kp.mk (HY.out.below hb)
      clear hb c4
      have c4 := blk_cell (i := 0) HY2.out.h4 rfl
      generalize cHas l vNC = b1 at *
      cases b1
      · go_wp2_with fail
        refine (CH.out vNS (by decide) _ _ HY2.out.rd).mono ?_
        rintro e w3 ⟨rfl, hb⟩
        have HY3 := Kp.mk (HY2.out.below hb)
        clear hb c4
        have c4 := blk_cell (i := 0) HY3.out.h4 rfl
        generalize cHas l vNS = b2 at *
        cases b2
        · go_wp2_with fail
          refine (CH.out vPV (by decide) _ _ HY3.out.rd).mono ?_
          rintro e w4 ⟨rfl, hb⟩
          have HY4 := Kp.mk (HY3.out.below hb)
          clear hb c4
          generalize cHas l vPV = b3 at *
          have HE := Kp.mk (show cHd l = b3 from HHD.out)
          go_wp2_with fail
          go_meet
          exact ⟨_, rfl, by have := blk_lt HY4.out.mx.hb; omega, by rw [HE.out]; exact heap_alloc_new _ _, HY4.out.below ((Below.refl _ _).alloc (Nat.le_refl _) _)⟩
        · have HE := Kp.mk (show cHd l = true from HHD.out)
          go_wp2_with fail
          go_meet
          exact ⟨_, rfl, by have := blk_lt HY3.out.mx.hb; omega, by rw [HE.out]; exact heap_alloc_new _ _, HY3.out.below ((Below.refl _ _).alloc (Nat.le_refl _) _)⟩
      · have HE := Kp.mk (show cHd l = true from HHD.out)
        go_wp2_with fail
        go_meet
        exact ⟨_, rfl, by have := blk_lt HY2.out.mx.hb; omega, by rw [HE.out]; exact heap_alloc_new _ _, HY2.out.below ((Below.refl _ _).alloc (Nat.le_refl _) _)⟩
    case rest =>
      obtain ⟨k13, rfl, hne, hk, hY⟩ := hcut
      replace HY := Kp.mk hY
      have HK13 := Kp.mk hk
      have HNE := Kp.mk hne
      clear hY hk hne CH HHD
      have c4 := blk_cell (i := 0) HY.out.h4 rfl
      go_wp2_with fail
      refine (CA.out _ _ HY.out.rd).mono ?_
      rintro e w5 ⟨rfl, hb⟩
      have HX := Kp.mk (RY.full (age := (ageR (ccD l)).1) (HY.out.below hb) ((hb.block _ (blk_lt HK13.out)).trans HK13.out) HNE.out)
      clear hb c4 CA HY HK13 HNE
      generalize cHd l = H at *
      generalize w.heap.size + 1 = k7 at *
      cases D
      · cases U
        · skip
          have HR2 := Kp.mk (show RL = adL (adL (adL (adL l false nmPR vNC) false nmEX EV) false nmCC vNC) false nmCC FV from HR.out)
          have S1 := Kp.mk (adL_sm (b := false) (n := nmPR) (x := vNC) SM0.out (by decide) (by decide))
          have S2 := Kp.mk (adL_sm (b := false) (n := nmEX) (x := EV) S1.out (by decide) (by omega))
          have S3 := Kp.mk (adL_sm (b := false) (n := nmCC) (x := vNC) S2.out (by decide) (by decide))
          have L1 := Kp.mk (show (adL l false nmPR vNC).length ≤ 1000 by have := (adL_len l false nmPR vNC).2; omega)
          have L2 := Kp.mk (show (adL (adL l false nmPR vNC) false nmEX EV).length ≤ 1000 by have := (adL_len l false nmPR vNC).2; have := (adL_len (adL l false nmPR vNC) false nmEX EV).2; omega)
          have L3 := Kp.mk (show (adL (adL (adL l false nmPR vNC) false nmEX EV) false nmCC vNC).length ≤ 1000 by have := (adL_len l false nmPR vNC).2; have := (adL_len (adL l false nmPR vNC) false nmEX EV).2; have := (adL_len (adL (adL l false nmPR vNC) false nmEX EV) false nmCC vNC).2; omega)
          have c13 := blk_cell (i := 0) HX.out.h13 rfl
          have c4 := blk_cell (i := 0) HX.out.h4 rfl
          go_wp2_with fail
          refine (cxadd_no false nmPR vNC bx _ l _ HX.out.mx SM0.out (by omega) (by decide) (fun _ w' _ => cxno_any w')).mono ?_
          rintro e w11 ⟨rfl, u1, hm, ho⟩
          replace HX := Kp.mk (HX.out.add ho hm)
          clear hm ho c13 c4
          have c13 := blk_cell (i := 0) HX.out.h13 rfl
          have c4 := blk_cell (i := 0) HX.out.h4 rfl
          go_wp2_with fail
          refine (cxadd_1 false nmEX EV _ _ _ _ bx _ _ _ HX.out.mx S1.out L1.out (by decide) (fun _ w' hb' => CL1.out _ _ _ _ _ w' (HX.out.below hb').h4 (HX.out.below hb').h7 (HX.out.below hb').h13 (HX.out.below hb').h14 (HX.out.below hb').rd)).mono ?_
          rintro e w12 ⟨rfl, u2, hm, ho⟩
          replace HX := Kp.mk (HX.out.add ho hm)
          clear hm ho c13 c4
          have c13 := blk_cell (i := 0) HX.out.h13 rfl
          have c4 := blk_cell (i := 0) HX.out.h4 rfl
          go_wp2_with fail
          refine (cxadd_no false nmCC vNC bx _ _ _ HX.out.mx S2.out L2.out (by decide) (fun _ w' _ => cxno_any w')).mono ?_
          rintro e w13 ⟨rfl, u3, hm, ho⟩
          replace HX := Kp.mk (HX.out.add ho hm)
          clear hm ho c13 c4
          have c13 := blk_cell (i := 0) HX.out.h13 rfl
          have c4 := blk_cell (i := 0) HX.out.h4 rfl
          go_wp2_with fail
          refine (cxadd_2 false nmCC FV _ _ bx _ _ _ HX.out.mx S3.out L3.out (by decide) (fun _ w' hb' => CL2.out _ _ _ w' (HX.out.below hb').h4 (HX.out.below hb').h7 (HX.out.below hb').rd)).mono ?_
          rintro e w14 ⟨rfl, u4, hm, ho⟩
          replace HX := Kp.mk (HX.out.add ho hm)
          clear hm ho c13 c4
          have c13 := blk_cell (i := 0) HX.out.h13 rfl
          have c4 := blk_cell (i := 0) HX.out.h4 rfl
          go_wp2_with fail
          refine (cxall_any bx u4 _ _ HX.out.mx).mono ?_
          rintro e w15 ⟨rfl, rfl⟩
          obtain ⟨a3, c3, hu3⟩ := rdf_form HX.out.mx.rd
          have HU3 := Kp.mk hu3
          clear hu3
          go_wp2_with fail
          go_ret
          exact ⟨_, rfl, by rw [HR2.out]; exact HX.out.mx.rd, HX.out.bel⟩
        · skip
          have HR2 := Kp.mk (show RL = adL (adL (adL (adL l false nmPR vNC) false nmEX EV) (cPr l) nmCC vNC) true nmCC FV from HR.out)
          have S1 := Kp.mk (adL_sm (b := false) (n := nmPR) (x := vNC) SM0.out (by decide) (by decide))
          have S2 := Kp.mk (adL_sm (b := false) (n := nmEX) (x := EV) S1.out (by decide) (by omega))
          have S3 := Kp.mk (adL_sm (b := (cPr l)) (n := nmCC) (x := vNC) S2.out (by decide) (by decide))
          have L1 := Kp.mk (show (adL l false nmPR vNC).length ≤ 1000 by have := (adL_len l false nmPR vNC).2; omega)
          have L2 := Kp.mk (show (adL (adL l false nmPR vNC) false nmEX EV).length ≤ 1000 by have := (adL_len l false nmPR vNC).2; have := (adL_len (adL l false nmPR vNC) false nmEX EV).2; omega)
          have L3 := Kp.mk (show (adL (adL (adL l false nmPR vNC) false nmEX EV) (cPr l) nmCC vNC).length ≤ 1000 by have := (adL_len l false nmPR vNC).2; have := (adL_len (adL l false nmPR vNC) false nmEX EV).2; have := (adL_len (adL (adL l false nmPR vNC) false nmEX EV) (cPr l) nmCC vNC).2; omega)
          have c13 := blk_cell (i := 0) HX.out.h13 rfl
          have c4 := blk_cell (i := 0) HX.out.h4 rfl
          go_wp2_with fail
          refine (cxadd_no false nmPR vNC bx _ l _ HX.out.mx SM0.out (by omega) (by decide) (fun _ w' _ => cxno_any w')).mono ?_
          rintro e w11 ⟨rfl, u1, hm, ho⟩
          replace HX := Kp.mk (HX.out.add ho hm)
          clear hm ho c13 c4
          have c13 := blk_cell (i := 0) HX.out.h13 rfl
          have c4 := blk_cell (i := 0) HX.out.h4 rfl
          go_wp2_with fail
          refine (cxadd_1 false nmEX EV _ _ _ _ bx _ _ _ HX.out.mx S1.out L1.out (by decide) (fun _ w' hb' => CL1.out _ _ _ _ _ w' (HX.out.below hb').h4 (HX.out.below hb').h7 (HX.out.below hb').h13 (HX.out.below hb').h14 (HX.out.below hb').rd)).mono ?_
          rintro e w12 ⟨rfl, u2, hm, ho⟩
          replace HX := Kp.mk (HX.out.add ho hm)
          clear hm ho c13 c4
          have c13 := blk_cell (i := 0) HX.out.h13 rfl
          have c4 := blk_cell (i := 0) HX.out.h4 rfl
          go_wp2_with fail
          refine (C0.out _ _ HX.out.rd).mono ?_
          rintro e w19 ⟨rfl, hb⟩
          replace HX := Kp.mk (HX.out.below hb)
          clear hb c13 c4
          have c13 := blk_cell (i := 0) HX.out.h13 rfl
          have c4 := blk_cell (i := 0) HX.out.h4 rfl
          go_wp2_with fail
          refine (cxadd_no (cPr l) nmCC vNC bx _ _ _ HX.out.mx S2.out L2.out (by decide) (fun _ w' _ => cxno_any w')).mono ?_
          rintro e w13 ⟨rfl, u3, hm, ho⟩
          replace HX := Kp.mk (HX.out.add ho hm)
          clear hm ho c13 c4
          have c13 := blk_cell (i := 0) HX.out.h13 rfl
          have c4 := blk_cell (i := 0) HX.out.h4 rfl
          go_wp2_with fail
          refine (cxadd_2 true nmCC FV _ _ bx _ _ _ HX.out.mx S3.out L3.out (by decide) (fun _ w' hb' => CL2.out _ _ _ w' (HX.out.below hb').h4 (HX.out.below hb').h7 (HX.out.below hb').rd)).mono ?_
          rintro e w14 ⟨rfl, u4, hm, ho⟩
          replace HX := Kp.mk (HX.out.add ho hm)
          clear hm ho c13 c4
          have c13 := blk_cell (i := 0) HX.out.h13 rfl
          have c4 := blk_cell (i := 0) HX.out.h4 rfl
          go_wp2_with fail
          refine (cxall_any bx u4 _ _ HX.out.mx).mono ?_
          rintro e w15 ⟨rfl, rfl⟩
          obtain ⟨a3, c3, hu3⟩ := rdf_form HX.out.mx.rd
          have HU3 := Kp.mk hu3
          clear hu3
          go_wp2_with fail
          go_ret
          exact ⟨_, rfl, by rw [HR2.out]; exact HX.out.mx.rd, HX.out.bel⟩
      · cases U
        · cases H
          · skip
            have HR2 := Kp.mk (show RL = adL (adL (adL (adL l false nmPR vNC) aged nmEX EV) false nmCC vNC) false nmCC FV from HR.out)
            have S1 := Kp.mk (adL_sm (b := false) (n := nmPR) (x := vNC) SM0.out (by decide) (by decide))
            have S2 := Kp.mk (adL_sm (b := aged) (n := nmEX) (x := EV) S1.out (by decide) (by omega))
            have S3 := Kp.mk (adL_sm (b := false) (n := nmCC) (x := vNC) S2.out (by decide) (by decide))
            have L1 := Kp.mk (show (adL l false nmPR vNC).length ≤ 1000 by have := (adL_len l false nmPR vNC).2; omega)
            have L2 := Kp.mk (show (adL (adL l false nmPR vNC) aged nmEX EV).length ≤ 1000 by have := (adL_len l false nmPR vNC).2; have := (adL_len (adL l false nmPR vNC) aged nmEX EV).2; omega)
            have L3 := Kp.mk (show (adL (adL (adL l false nmPR vNC) aged nmEX EV) false nmCC vNC).length ≤ 1000 by have := (adL_len l false nmPR vNC).2; have := (adL_len (adL l false nmPR vNC) aged nmEX EV).2; have := (adL_len (adL (adL l false nmPR vNC) aged nmEX EV) false nmCC vNC).2; omega)
            have c13 := blk_cell (i := 0) HX.out.h13 rfl
            have c4 := blk_cell (i := 0) HX.out.h4 rfl
            go_wp2_with fail
            refine (cxadd_no false nmPR vNC bx _ l _ HX.out.mx SM0.out (by omega) (by decide) (fun _ w' _ => cxno_any w')).mono ?_
            rintro e w11 ⟨rfl, u1, hm, ho⟩
            replace HX := Kp.mk (HX.out.add ho hm)
            clear hm ho c13 c4
            have c13 := blk_cell (i := 0) HX.out.h13 rfl
            have c4 := blk_cell (i := 0) HX.out.h4 rfl
            go_wp2_with fail
            refine (cxadd_1 aged nmEX EV _ _ _ _ bx _ _ _ HX.out.mx S1.out L1.out (by decide) (fun _ w' hb' => CL1.out _ _ _ _ _ w' (HX.out.below hb').h4 (HX.out.below hb').h7 (HX.out.below hb').h13 (HX.out.below hb').h14 (HX.out.below hb').rd)).mono ?_
            rintro e w12 ⟨rfl, u2, hm, ho⟩
            replace HX := Kp.mk (HX.out.add ho hm)
            clear hm ho c13 c4
            have c13 := blk_cell (i := 0) HX.out.h13 rfl
            have c4 := blk_cell (i := 0) HX.out.h4 rfl
            go_wp2_with fail
            refine (cxadd_no false nmCC vNC bx _ _ _ HX.out.mx S2.out L2.out (by decide) (fun _ w' _ => cxno_any w')).mono ?_
            rintro e w13 ⟨rfl, u3, hm, ho⟩
            replace HX := Kp.mk (HX.out.add ho hm)
            clear hm ho c13 c4
            have c13 := blk_cell (i := 0) HX.out.h13 rfl
            have c4 := blk_cell (i := 0) HX.out.h4 rfl
            go_wp2_with fail
            refine (cxadd_2 false nmCC FV _ _ bx _ _ _ HX.out.mx S3.out L3.out (by decide) (fun _ w' hb' => CL2.out _ _ _ w' (HX.out.below hb').h4 (HX.out.below hb').h7 (HX.out.below hb').rd)).mono ?_
            rintro e w14 ⟨rfl, u4, hm, ho⟩
            replace HX := Kp.mk (HX.out.add ho hm)
            clear hm ho c13 c4
            have c13 := blk_cell (i := 0) HX.out.h13 rfl
            have c4 := blk_cell (i := 0) HX.out.h4 rfl
            go_wp2_with fail
            refine (cxall_any bx u4 _ _ HX.out.mx).mono ?_
            rintro e w15 ⟨rfl, rfl⟩
            obtain ⟨a3, c3, hu3⟩ := rdf_form HX.out.mx.rd
            have HU3 := Kp.mk hu3
            clear hu3
            go_wp2_with fail
            go_ret
            exact ⟨_, rfl, by rw [HR2.out]; exact HX.out.mx.rd, HX.out.bel⟩
          · skip
            have HR2 := Kp.mk (show RL = adL (adL (adL (adL l true nmPR vNC) true nmEX EV) false nmCC vNC) false nmCC FV from HR.out)
            have S1 := Kp.mk (adL_sm (b := true) (n := nmPR) (x := vNC) SM0.out (by decide) (by decide))
            have S2 := Kp.mk (adL_sm (b := true) (n := nmEX) (x := EV) S1.out (by decide) (by omega))
            have S3 := Kp.mk (adL_sm (b := false) (n := nmCC) (x := vNC) S2.out (by decide) (by decide))
            have L1 := Kp.mk (show (adL l true nmPR vNC).length ≤ 1000 by have := (adL_len l true nmPR vNC).2; omega)
            have L2 := Kp.mk (show (adL (adL l true nmPR vNC) true nmEX EV).length ≤ 1000 by have := (adL_len l true nmPR vNC).2; have := (adL_len (adL l true nmPR vNC) true nmEX EV).2; omega)
            have L3 := Kp.mk (show (adL (adL (adL l true nmPR vNC) true nmEX EV) false nmCC vNC).length ≤ 1000 by have := (adL_len l true nmPR vNC).2; have := (adL_len (adL l true nmPR vNC) true nmEX EV).2; have := (adL_len (adL (adL l true nmPR vNC) true nmEX EV) false nmCC vNC).2; omega)
            have c13 := blk_cell (i := 0) HX.out.h13 rfl
            have c4 := blk_cell (i := 0) HX.out.h4 rfl
            go_wp2_with fail
            refine (cxadd_no true nmPR vNC bx _ l _ HX.out.mx SM0.out (by omega) (by decide) (fun _ w' _ => cxno_any w')).mono ?_
            rintro e w11 ⟨rfl, u1, hm, ho⟩
            replace HX := Kp.mk (HX.out.add ho hm)
            clear hm ho c13 c4
            have c13 := blk_cell (i := 0) HX.out.h13 rfl
            have c4 := blk_cell (i := 0) HX.out.h4 rfl
            go_wp2_with fail
            refine (cxadd_1 true nmEX EV _ _ _ _ bx _ _ _ HX.out.mx S1.out L1.out (by decide) (fun _ w' hb' => CL1.out _ _ _ _ _ w' (HX.out.below hb').h4 (HX.out.below hb').h7 (HX.out.below hb').h13 (HX.out.below hb').h14 (HX.out.below hb').rd)).mono ?_
            rintro e w12 ⟨rfl, u2, hm, ho⟩
            replace HX := Kp.mk (HX.out.add ho hm)
            clear hm ho c13 c4
            have c13 := blk_cell (i := 0) HX.out.h13 rfl
            have c4 := blk_cell (i := 0) HX.out.h4 rfl
            go_wp2_with fail
            refine (cxadd_no false nmCC vNC bx _ _ _ HX.out.mx S2.out L2.out (by decide) (fun _ w' _ => cxno_any w')).mono ?_
            rintro e w13 ⟨rfl, u3, hm, ho⟩
            replace HX := Kp.mk (HX.out.add ho hm)
            clear hm ho c13 c4
            have c13 := blk_cell (i := 0) HX.out.h13 rfl
            have c4 := blk_cell (i := 0) HX.out.h4 rfl
            go_wp2_with fail
            refine (cxadd_2 false nmCC FV _ _ bx _ _ _ HX.out.mx S3.out L3.out (by decide) (fun _ w' hb' => CL2.out _ _ _ w' (HX.out.below hb').h4 (HX.out.below hb').h7 (HX.out.below hb').rd)).mono ?_
            rintro e w14 ⟨rfl, u4, hm, ho⟩
            replace HX := Kp.mk (HX.out.add ho hm)
            clear hm ho c13 c4
            have c13 := blk_cell (i := 0) HX.out.h13 rfl
            have c4 := blk_cell (i := 0) HX.out.h4 rfl
            go_wp2_with fail
            refine (cxall_any bx u4 _ _ HX.out.mx).mono ?_
            rintro e w15 ⟨rfl, rfl⟩
            obtain ⟨a3, c3, hu3⟩ := rdf_form HX.out.mx.rd
            have HU3 := Kp.mk hu3
            clear hu3
            go_wp2_with fail
            go_ret
            exact ⟨_, rfl, by rw [HR2.out]; exact HX.out.mx.rd, HX.out.bel⟩
        · exact absurd ⟨rfl, rfl⟩ hDU
end Go.Proofs.YtgamekfickheaaaGreat
