/- Bodies (layer 25): the example; EncodeBody. -/
import Derived.Test.YtpgnekejemockaaEnf
import Derived.Test.YtpgnekejemockaaApr
namespace Go.Proofs.Ytpgnekejemockaa
open Go.RowKit Go.Shelf
set_option linter.unusedVariables false
set_option linter.unusedSimpArgs false

theorem ex25 : bdT 2 0 [2, 1] ⟨#[97, 98, 99]⟩ [] = ⟨#[50, 13, 10, 97, 98, 13, 10, 49, 13, 10, 99, 13, 10, 48, 13, 10, 13, 10]⟩ ∧ bdE 2 0 [2, 1] ⟨#[97, 98, 99]⟩ [] = 0 := by decide +kernel
set_option maxRecDepth 100000 in
set_option maxHeartbeats 2000000 in
theorem lives25_any (w : World) : Calls Try.prog 20 #[] w fun e w' => e = .returned (.bool true) ∧ Below w.heap.size w w' := by
  have HM := Kp.mk (show RdZ (w.alloc (.cells #[.int .i64 2, .int .i64 1] 3)) (.slice (some ⟨w.heap.size, 0, none⟩) 2 2) [2, 1] from
    RdL.of_own (l := [2, 1]) (fun _ => rfl) (own_lit w 3 #[.int .i64 2, .int .i64 1] 2 1 rfl (by unfold maxLen; omega)))
  have HT := Kp.mk (show RdF (w.alloc (.cells #[.int .i64 2, .int .i64 1] 3)) (.slice none 0 0) [] from RdL.nil (by unfold maxLen; omega))
  have HS := Kp.mk (ebody_any 2 0 _ _ [2, 1] ⟨#[97, 98, 99]⟩ [] _ HM.out HT.out (by simp) (by decide) (by simp) (by simp))
  rw [ex25.1, ex25.2] at HS
  have HA := Kp.mk ((Below.refl w.heap.size w).alloc (Nat.le_refl _) (.cells #[.int .i64 2, .int .i64 1] 3))
  clear HM HT
  go_enter Try.func20, Try.ntmps20
  go_wp2_with fail
  refine HS.out.mono ?_
  rintro e w2 ⟨rfl, hb⟩
  have HB := Kp.mk (HA.out.trans (hb.mono HA.out.size))
  clear hb HS HA
  go_wp2_with fail
  refine (eend_any _).mono ?_
  rintro e w3 ⟨rfl, rfl⟩
  have hcr : crlf.toList = [13, 10] := by decide +kernel
  go_wp2_with fail
  go_ret
  exact ⟨rfl, HB.out⟩
theorem Try.cellsMg25 : Try.prog.cellsOf 52 = 11 := by kernel_rfl
theorem Try.cellsHd25 : Try.prog.cellsOf 50 = 6 := by kernel_rfl
theorem Try.cellsFr25 : Try.prog.cellsOf 47 = 2 := by kernel_rfl
theorem Try.cellsHi25 : Try.prog.cellsOf 3 = 1 := by kernel_rfl
theorem Try.cellsHl25 : Try.prog.cellsOf 48 = 1 := by kernel_rfl
theorem Try.cellsIl25 : Try.prog.cellsOf 38 = 1 := by kernel_rfl
theorem rdb_slc25 {w : World} {t e : TypeId} {cs : List Value} {sz : Nat} (ht : Try.prog.underlying t = some (.slice e)) (hz : Try.prog.cellsOf e = sz) (hp : 0 < sz) (h : Rdb Try.prog w t cs) : ∃ a n c, cs = [.slice a n c] := by
  obtain ⟨v, ES, h1, h2, -⟩ := h.slice ht hz hp
  obtain ⟨a, c, h3, -⟩ := h2
  exact ⟨a, _, c, by rw [h1, h3]⟩
theorem fldOk_list25 (v : Value) (w : World) (cs : List Value) (hc : cs = [v]) (h : Rdb Try.prog w 48 cs) : ∃ l, RdF w v l ∧ ∀ p ∈ l, FldOk p := by
  obtain ⟨v2, l, h1, h2, h3⟩ := h.list (f := fldC) (Q := FldOk) Try.underlying48 Try.fcellsFld (by omega) fun E hE => fld_of Try.underlying86 Try.underlying9 Try.fcellsFld Try.fcellsFs ⟨_, rfl, rfl, rfl⟩ ⟨_, rfl, rfl, rfl⟩ hE
  rw [hc] at h1
  cases h1
  exact ⟨l, h2, h3⟩
set_option maxRecDepth 100000 in
theorem msg25_arg (v : Value) (w : World) (h : Arg Try.prog w 52 v) : ∃ (m t : ByteArray) (mi st : Int) (r : ByteArray) (fa : Option Addr) (fn fc : Nat) (fk ln : Int) (bd : ByteArray) (sa : Option Addr) (sn sc : Nat) (u : Value) (T : List Fld),
    v = .agg #[.string m, .string t, .int .i64 mi, .int .i64 st, .string r, .slice fa fn fc, .int .i64 fk, .int .i64 ln, .string bd, .slice sa sn sc, u] ∧ RdF w u T ∧ (∀ p ∈ T, FldOk p) ∧ bd.size ≤ maxLen := by
  obtain ⟨E, rfl, hr⟩ := h.struct Try.underlying52
  obtain ⟨hl, hf⟩ := hr.struct Try.underlying52
  rw [Try.cellsMg25] at hl
  have f0 : Rdb Try.prog w 50 ((E.drop 0).take (Try.prog.cellsOf 50)) := hf 0 _ rfl
  have f1 : Rdb Try.prog w 47 ((E.drop 6).take (Try.prog.cellsOf 47)) := hf 1 _ rfl
  have f2 : Rdb Try.prog w 9 ((E.drop 8).take (Try.prog.cellsOf 9)) := hf 2 _ rfl
  have f3 : Rdb Try.prog w 38 ((E.drop 9).take (Try.prog.cellsOf 38)) := hf 3 _ rfl
  have f4 : Rdb Try.prog w 48 ((E.drop 10).take (Try.prog.cellsOf 48)) := hf 4 _ rfl
  obtain ⟨hl0, g⟩ := f0.struct Try.underlying50
  obtain ⟨hl1, k⟩ := f1.struct Try.underlying47
  have g0 : Rdb Try.prog w 9 ((((E.drop 0).take (Try.prog.cellsOf 50)).drop 0).take (Try.prog.cellsOf 9)) := g 0 _ rfl
  have g1 : Rdb Try.prog w 9 ((((E.drop 0).take (Try.prog.cellsOf 50)).drop 1).take (Try.prog.cellsOf 9)) := g 1 _ rfl
  have g2 : Rdb Try.prog w 3 ((((E.drop 0).take (Try.prog.cellsOf 50)).drop 2).take (Try.prog.cellsOf 3)) := g 2 _ rfl
  have g3 : Rdb Try.prog w 3 ((((E.drop 0).take (Try.prog.cellsOf 50)).drop 3).take (Try.prog.cellsOf 3)) := g 3 _ rfl
  have g4 : Rdb Try.prog w 9 ((((E.drop 0).take (Try.prog.cellsOf 50)).drop 4).take (Try.prog.cellsOf 9)) := g 4 _ rfl
  have g5 : Rdb Try.prog w 48 ((((E.drop 0).take (Try.prog.cellsOf 50)).drop 5).take (Try.prog.cellsOf 48)) := g 5 _ rfl
  have k0 : Rdb Try.prog w 3 ((((E.drop 6).take (Try.prog.cellsOf 47)).drop 0).take (Try.prog.cellsOf 3)) := k 0 _ rfl
  have k1 : Rdb Try.prog w 3 ((((E.drop 6).take (Try.prog.cellsOf 47)).drop 1).take (Try.prog.cellsOf 3)) := k 1 _ rfl
  clear hf g k hl0 hl1 f0 f1
  rw [Try.cellsHd25] at g0 g1 g2 g3 g4 g5
  rw [Try.cellsFr25] at k0 k1
  rw [Try.fcellsFs] at f2
  rw [Try.cellsIl25] at f3
  rw [Try.cellsHl25] at f4
  rw [Try.fcellsFs] at g0 g1 g4
  rw [Try.cellsHi25] at g2 g3 k0 k1
  rw [Try.cellsHl25] at g5
  match E, hl with
  | [x0, x1, x2, x3, x4, x5, x6, x7, x8, x9, x10], _ =>
    obtain ⟨m, e0, z0⟩ := g0.str Try.underlying9
    obtain ⟨t, e1, z1⟩ := g1.str Try.underlying9
    obtain ⟨mi, e2, z2⟩ := g2.int Try.underlying3
    obtain ⟨st, e3, z3⟩ := g3.int Try.underlying3
    obtain ⟨r, e4, z4⟩ := g4.str Try.underlying9
    obtain ⟨fa, fn, fc, e5⟩ := rdb_slc25 Try.underlying48 Try.fcellsFld (by omega) g5
    obtain ⟨fk, e6, z6⟩ := k0.int Try.underlying3
    obtain ⟨ln, e7, z7⟩ := k1.int Try.underlying3
    obtain ⟨bd, e8, z8⟩ := f2.str Try.underlying9
    obtain ⟨sa, sn, sc, e9⟩ := rdb_slc25 Try.underlying38 Try.cellsHi25 (by omega) f3
    obtain ⟨T, e10, z10⟩ := fldOk_list25 x10 w _ rfl f4
    simp at e0 e1 e2 e3 e4 e5 e6 e7 e8 e9
    exact ⟨m, t, mi, st, r, fa, fn, fc, fk, ln, bd, sa, sn, sc, x10, T, by rw [e0, e1, e2, e3, e4, e5, e6, e7, e8, e9], e10, z10, z8⟩
set_option maxRecDepth 100000 in
theorem frm25_arg (v : Value) (w : World) (h : Arg Try.prog w 47 v) : ∃ k n : Int, v = .agg #[.int .i64 k, .int .i64 n] ∧ -9223372036854775808 ≤ n ∧ n ≤ 9223372036854775807 := by
  obtain ⟨E, rfl, hr⟩ := h.struct Try.underlying47
  obtain ⟨hl, hf⟩ := hr.struct Try.underlying47
  rw [Try.cellsFr25] at hl
  have f0 : Rdb Try.prog w 3 ((E.drop 0).take (Try.prog.cellsOf 3)) := hf 0 _ rfl
  have f1 : Rdb Try.prog w 3 ((E.drop 1).take (Try.prog.cellsOf 3)) := hf 1 _ rfl
  rw [Try.cellsHi25] at f0 f1
  match E, hl with
  | [x0, x1], _ =>
    obtain ⟨a, e0, z0⟩ := f0.int Try.underlying3
    obtain ⟨b, e1, z1⟩ := f1.int Try.underlying3
    simp at e0 e1
    obtain ⟨b0, b1⟩ := bounds_i64 z1
    exact ⟨a, b, by rw [e0, e1], b0, b1⟩
theorem ints25_arg (v : Value) (w : World) (h : Arg Try.prog w 38 v) : ∃ l, RdZ w v l ∧ ∀ x ∈ l, (Lit.int .i64 x).wf = true :=
  h.list (f := intC) Try.underlying38 Try.cellsHi25 (by omega) fun E hE => by
    obtain ⟨n, h1, h2⟩ := hE.int Try.underlying3
    exact ⟨n, h1, h2⟩
theorem fldQ_of {l : List Fld} (h : hFew l = true) : ∀ p ∈ l, FldQ p := fun p hp => hFew_vals h p hp
set_option maxRecDepth 100000 in
set_option maxHeartbeats 4000000 in
theorem encode_walk (kind lnf : Int) (v1 : Value) (z : List Int) (m t : ByteArray) (mi st : Int) (r : ByteArray) (fa : Option Addr) (fn fc : Nat) (fk ln : Int) (bd : ByteArray) (sa : Option Addr) (sn sc : Nat) (u : Value) (T : List Fld) (w : World)
    (hl0 : -9223372036854775808 ≤ lnf) (hl1 : lnf ≤ 9223372036854775807) (hv : RdZ w v1 z) (hu : RdF w u T) (hz : ∀ p ∈ T, FldOk p) (hb : bd.size ≤ maxLen) :
    Calls Try.prog 5 #[.agg #[.int .i64 kind, .int .i64 lnf], v1, .agg #[.string m, .string t, .int .i64 mi, .int .i64 st, .string r, .slice fa fn fc, .int .i64 fk, .int .i64 ln, .string bd, .slice sa sn sc, u]] w fun e w' => e = .returned (.bool true) ∧ Below w.heap.size w w' := by
  have HV := Kp.mk hv
  have HU := Kp.mk hu
  have HFW := Kp.mk (fun W (hW : Below w.heap.size w W) => few10_any u T W (hu.below hW) hz)
  obtain ⟨a, c, rfl, -, zc, -⟩ := hv
  obtain ⟨a2, c2, rfl, -, tc, -⟩ := hu
  have hzl : z.length ≤ 9223372036854775807 := by have := HV.out; obtain ⟨a', c', h1, h2, h3, -⟩ := this; unfold maxLen at h3; omega
  unfold maxLen at hb
  clear hz zc tc
  have HX := Kp.mk (blk_alloc (o2 := .cells #[.string m, .string t, .int .i64 mi, .int .i64 st, .string r, .slice fa fn fc, .int .i64 fk, .int .i64 ln, .string bd, .slice sa sn sc, .slice a2 T.length c2] 52) (heap_alloc_new w (.cells #[.int .i64 kind, .int .i64 lnf] 47)))
  have HY := Kp.mk (heap_alloc_new (w.alloc (.cells #[.int .i64 kind, .int .i64 lnf] 47)) (.cells #[.string m, .string t, .int .i64 mi, .int .i64 st, .string r, .slice fa fn fc, .int .i64 fk, .int .i64 ln, .string bd, .slice sa sn sc, .slice a2 T.length c2] 52))
  have HB := Kp.mk (((Below.refl w.heap.size w).alloc (Nat.le_refl _) (.cells #[.int .i64 kind, .int .i64 lnf] 47)).alloc (by simp) (.cells #[.string m, .string t, .int .i64 mi, .int .i64 st, .string r, .slice fa fn fc, .int .i64 fk, .int .i64 ln, .string bd, .slice sa sn sc, .slice a2 T.length c2] 52))
  go_enter Try.func5, Try.ntmps5
  go_upto_region 1 with fail
  obtain ⟨w1, hw1⟩ : ∃ w1, (w.alloc (.cells #[.int .i64 kind, .int .i64 lnf] 47)).alloc (.cells #[.string m, .string t, .int .i64 mi, .int .i64 st, .string r, .slice fa fn fc, .int .i64 fk, .int .i64 ln, .string bd, .slice sa sn sc, .slice a2 T.length c2] 52) = w1 := ⟨_, rfl⟩
  rw [hw1] at HX HY HB
  try rw [hw1]
  rw [World.size_alloc] at HY
  clear hw1
  have d8 := blk_cell (i := 8) HY.out rfl
  have d10 := blk_cell (i := 10) HY.out rfl
  go_quiet (fail)
  have HX2 := Kp.mk (blk_drewN HX.out nq)
  have HB2 := Kp.mk (HB.out.trans ((gdrewN w1 nq).mono HB.out.size))
  clear d8 d10 HX HY HB
  generalize w1.drewN nq = w2 at *
  by_cases hg : 2000 < bd.size
  · have q1 : (2000 : Int) < (bd.size : Int) := by omega
    have hun : (undef : Value) = .tuple #[] := rfl
    go_wp2_with fail
    refine (lives25_any _).mono ?_
    rintro e w9 ⟨rfl, hb9⟩
    have HB9 := Kp.mk (HB2.out.trans (hb9.mono HB2.out.size))
    clear hb9
    go_wp2_with fail
    go_ret
    exact ⟨rfl, HB9.out⟩
  · have q1 : ¬ (2000 : Int) < (bd.size : Int) := by omega
    by_cases hg2 : 300 < z.length
    · have q2 : (300 : Int) < (z.length : Int) := by omega
      have hun : (undef : Value) = .tuple #[] := rfl
      go_wp2_with fail
      refine (lives25_any _).mono ?_
      rintro e w9 ⟨rfl, hb9⟩
      have HB9 := Kp.mk (HB2.out.trans (hb9.mono HB2.out.size))
      clear hb9
      go_wp2_with fail
      go_ret
      exact ⟨rfl, HB9.out⟩
    · have q2 : ¬ (300 : Int) < (z.length : Int) := by omega
      cases hf : hFew T
      · rw [hf] at HFW
        clear hf
        go_wp2_with fail
        refine (HFW.out _ HB2.out).mono ?_
        rintro e w3 ⟨rfl, hb3⟩
        have HB3 := Kp.mk (HB2.out.trans (hb3.mono HB2.out.size))
        clear hb3
        go_wp2_with fail
        refine (lives25_any _).mono ?_
        rintro e w9 ⟨rfl, hb9⟩
        have HB9 := Kp.mk (HB3.out.trans (hb9.mono HB3.out.size))
        clear hb9
        go_wp2_with fail
        go_ret
        exact ⟨rfl, HB9.out⟩
      · have HQ := Kp.mk (fldQ_of hf)
        have hTl := (hFew_out hf).1
        rw [hf] at HFW
        clear hf
        have HEB := Kp.mk (fun W (hW : Below w.heap.size w W) => ebody_any kind lnf _ _ z bd T W (HV.out.below hW) (HU.out.below hW) (by omega) (by omega) HQ.out hTl)
        have HRB := Kp.mk (fun W (hW : Below w.heap.size w W) => rbody_any kind lnf _ _ z bd T W (HV.out.below hW) (HU.out.below hW) (by omega) (by omega) HQ.out hTl)
        have HEL := Kp.mk (fun W (hW : Below w.heap.size w W) => elast_any _ T W (HU.out.below hW) HQ.out (by omega))
        have HRL := Kp.mk (fun W (hW : Below w.heap.size w W) => rlast25_any _ T W (HU.out.below hW) HQ.out (by omega))
        have HEG := Kp.mk (fun W => ebegin_any lnf W hl0 hl1)
        have HRG := Kp.mk (fun W => rbegin_any lnf W hl0 hl1)
        generalize bdT kind lnf z bd T = RT at *
        generalize bdE kind lnf z bd T = RE at *
        generalize lstF T = LT at *
        generalize begS lnf = BG at *
        go_wp2_with fail
        refine (HFW.out _ HB2.out).mono ?_
        rintro e w3 ⟨rfl, hb3⟩
        have HB3 := Kp.mk (HB2.out.trans (hb3.mono HB2.out.size))
        have HX3 := Kp.mk ((hb3.block _ (blk_lt HX2.out)).trans HX2.out)
        have d0 := blk_cell (i := 0) HX3.out rfl
        have d1 := blk_cell (i := 1) HX3.out rfl
        clear hb3
        go_wp2_with fail
        refine (HEB.out _ HB3.out).mono ?_
        rintro e w4 ⟨rfl, hb4⟩
        have HB4 := Kp.mk (HB3.out.trans (hb4.mono HB3.out.size))
        have HX4 := Kp.mk ((hb4.block _ (blk_lt HX3.out)).trans HX3.out)
        have e0 := blk_cell (i := 0) HX4.out rfl
        have e1 := blk_cell (i := 1) HX4.out rfl
        clear hb4 d0 d1
        go_wp2_with fail
        refine (HRB.out _ HB4.out).mono ?_
        rintro e w5 ⟨rfl, hb5⟩
        have HB5 := Kp.mk (HB4.out.trans (hb5.mono HB4.out.size))
        have HX5 := Kp.mk ((hb5.block _ (blk_lt HX4.out)).trans HX4.out)
        have hbl := blk_lt HX5.out
        clear hb5 e0 e1
        have hsz5 := HB5.out.size
        have p0 : ∀ p : InS (fun W => Below w5.heap.size w5 W), p.w.cell? ⟨w.heap.size, 1, none⟩ = some (.int .i64 lnf) := fun p => blk_cell (i := 1) ((p.ok.block _ hbl).trans HX5.out) rfl
        haveI hne : Nonempty (InS (fun W => Below w5.heap.size w5 W)) := ⟨⟨w5, Below.refl _ _⟩⟩
        go_upto_region 6 with fail
        refine region_in (fun W => Below w5.heap.size w5 W) (by kernel_rfl) (by kernel_rfl) (gdrewN w5 1) ?_
        repeat (go_big_quiet_step (first
          | (go_at_call 23; exact call_in fun W (h : Below w5.heap.size w5 W) => (HEG.out W).mono fun _ _ h2 => ⟨h2.1, h.trans (h2.2.mono h.size)⟩)
          | (go_at_call 24; exact call_in fun W (h : Below w5.heap.size w5 W) => (HRG.out W).mono fun _ _ h2 => ⟨h2.1, h.trans (h2.2.mono h.size)⟩)
          | (go_at_call 25; exact call_in fun W (h : Below w5.heap.size w5 W) => (HEL.out W (HB5.out.trans (h.mono hsz5))).mono fun _ _ h2 => ⟨h2.1, h.trans (h2.2.mono h.size)⟩)
          | (go_at_call 26; exact call_in fun W (h : Below w5.heap.size w5 W) => (HRL.out W (HB5.out.trans (h.mono hsz5))).mono fun _ _ h2 => ⟨h2.1, h.trans (h2.2.mono h.size)⟩)
          | (go_at_call 20; exact call_in fun W (h : Below w5.heap.size w5 W) => (lives25_any W).mono fun _ _ h2 => ⟨h2.1, h.trans (h2.2.mono h.size)⟩)))
        refine wpQuiet_nil ?_
        intro _ hw'
        obtain ⟨wq, rfl⟩ := hw'
        have HQW := Kp.mk wq.ok
        clear hne p0
        generalize wq.w = wx at *
        go_wp2_with fail
        go_ret
        exact ⟨rfl, HB5.out.trans (HQW.out.mono hsz5)⟩
theorem encode_arg (v0 v1 v2 : Value) (w : World) (h0 : Arg Try.prog w 47 v0) (h1 : Arg Try.prog w 38 v1) (h2 : Arg Try.prog w 52 v2) :
    Calls Try.prog 5 #[v0, v1, v2] w fun e w' => e = .returned (.bool true) ∧ Below w.heap.size w w' := by
  obtain ⟨k, n, rfl, b0, b1⟩ := frm25_arg v0 w h0
  obtain ⟨z, hz, -⟩ := ints25_arg v1 w h1
  obtain ⟨m, t, mi, st, r, fa, fn, fc, fk, ln, bd, sa, sn, sc, u, T, rfl, hu, hT, hb⟩ := msg25_arg v2 w h2
  exact encode_walk k n v1 z m t mi st r fa fn fc fk ln bd sa sn sc u T w b0 b1 hz hu hT hb
end Go.Proofs.Ytpgnekejemockaa
