/- Tally (layer 49): the example; messages as arguments; TallyTells. -/
import Derived.Test.YtocnecbhpofdgaaTlq
namespace Go.Proofs.Ytocnecbhpofdgaa
open Go.RowKit Go.Sort Go.Shelf
set_option linter.unusedVariables false
set_option linter.unusedSimpArgs false

def msgSt (n : Int) : Msg := ⟨⟨#[]⟩, ⟨#[]⟩, 0, n, ⟨#[]⟩, none, 0, 0, 0, 0, ⟨#[]⟩, none, 0, 0, none, 0, 0⟩
theorem ex49 : cntF (keysM false [msgSt 200, msgSt 404, msgSt 204]) = [(⟨#[50, 120, 120]⟩, 2), (⟨#[52, 120, 120]⟩, 1)] := by decide +kernel
set_option maxRecDepth 100000 in
set_option maxHeartbeats 2000000 in
theorem lives49_any (w : World) : Calls Try.prog 9 #[] w fun e w' => e = .returned (.bool true) ∧ Below w.heap.size w w' := by
  go_enter Try.func9, Try.ntmps9
  go_wp2_with fail
  have HM := Kp.mk (show RdM (w.alloc (.cells ([msgSt 200, msgSt 404, msgSt 204].flatMap msgC).toArray 32)) (.slice (some ⟨w.heap.size, 0, none⟩) 3 3) [msgSt 200, msgSt 404, msgSt 204] from
    RdL.of_own (l := [msgSt 200, msgSt 404, msgSt 204]) msgC_len (own_lit w 32 ([msgSt 200, msgSt 404, msgSt 204].flatMap msgC).toArray 3 11 rfl (by unfold maxLen; omega)))
  have HS := Kp.mk (tstats_any _ _ _ HM.out (by
    intro x hx
    simp at hx
    rcases hx with rfl | rfl | rfl
    all_goals exact ⟨by decide, by decide, by decide⟩) (by simp))
  have HA := Kp.mk ((Below.refl w.heap.size w).alloc (Nat.le_refl _) (.cells ([msgSt 200, msgSt 404, msgSt 204].flatMap msgC).toArray 32))
  refine HS.out.mono ?_
  rintro e w2 ⟨u, rfl, ho, hb⟩
  rw [ex49] at ho
  have HB := Kp.mk (HA.out.trans (hb.mono HA.out.size))
  obtain ⟨a, c, rfl⟩ := own_lenT ho
  obtain ⟨g, rfl⟩ := own_formT ho (by simp)
  have c0 : w2.cell? ⟨g, 0, none⟩ = some (.string ⟨#[50, 120, 120]⟩) := own_cellT ho rfl
  have c1 : w2.cell? ⟨g, 1, none⟩ = some (.int .i64 2) := own_cellT ho rfl
  have c2 : w2.cell? ⟨g, 2, none⟩ = some (.string ⟨#[52, 120, 120]⟩) := own_cellT ho rfl
  have c3 : w2.cell? ⟨g, 3, none⟩ = some (.int .i64 1) := own_cellT ho rfl
  clear ho hb HM HS HA
  simp only [List.length_cons, List.length_nil, Nat.zero_add, Nat.reduceAdd]
  go_wp2_with fail
  go_ret
  exact ⟨rfl, HB.out⟩
theorem Try.cellsMg : Try.prog.cellsOf 32 = 11 := by kernel_rfl
theorem Try.cellsHd : Try.prog.cellsOf 27 = 6 := by kernel_rfl
theorem Try.cellsFr : Try.prog.cellsOf 29 = 2 := by kernel_rfl
theorem Try.cellsHi : Try.prog.cellsOf 3 = 1 := by kernel_rfl
theorem Try.cellsHl : Try.prog.cellsOf 22 = 1 := by kernel_rfl
theorem Try.cellsIl : Try.prog.cellsOf 30 = 1 := by kernel_rfl
theorem rdb_slc {w : World} {t e : TypeId} {cs : List Value} {sz : Nat} (ht : Try.prog.underlying t = some (.slice e)) (hz : Try.prog.cellsOf e = sz) (hp : 0 < sz) (h : Rdb Try.prog w t cs) : ∃ a n c, cs = [.slice a n c] := by
  obtain ⟨v, ES, h1, h2, -⟩ := h.slice ht hz hp
  obtain ⟨a, c, h3, -⟩ := h2
  exact ⟨a, _, c, by rw [h1, h3]⟩
set_option maxRecDepth 100000 in
theorem msg_of {w : World} {E : List Value} (h : Rdb Try.prog w 32 E) : ∃ x : Msg, E = msgC x ∧ MsgOk x := by
  obtain ⟨hl, hf⟩ := h.struct Try.underlying32
  rw [Try.cellsMg] at hl
  have f0 : Rdb Try.prog w 27 ((E.drop 0).take (Try.prog.cellsOf 27)) := hf 0 _ rfl
  have f1 : Rdb Try.prog w 29 ((E.drop 6).take (Try.prog.cellsOf 29)) := hf 1 _ rfl
  have f2 : Rdb Try.prog w 9 ((E.drop 8).take (Try.prog.cellsOf 9)) := hf 2 _ rfl
  have f3 : Rdb Try.prog w 30 ((E.drop 9).take (Try.prog.cellsOf 30)) := hf 3 _ rfl
  have f4 : Rdb Try.prog w 22 ((E.drop 10).take (Try.prog.cellsOf 22)) := hf 4 _ rfl
  obtain ⟨hl0, g⟩ := f0.struct Try.underlying27
  obtain ⟨hl1, k⟩ := f1.struct Try.underlying29
  have g0 : Rdb Try.prog w 9 ((((E.drop 0).take (Try.prog.cellsOf 27)).drop 0).take (Try.prog.cellsOf 9)) := g 0 _ rfl
  have g1 : Rdb Try.prog w 9 ((((E.drop 0).take (Try.prog.cellsOf 27)).drop 1).take (Try.prog.cellsOf 9)) := g 1 _ rfl
  have g2 : Rdb Try.prog w 3 ((((E.drop 0).take (Try.prog.cellsOf 27)).drop 2).take (Try.prog.cellsOf 3)) := g 2 _ rfl
  have g3 : Rdb Try.prog w 3 ((((E.drop 0).take (Try.prog.cellsOf 27)).drop 3).take (Try.prog.cellsOf 3)) := g 3 _ rfl
  have g4 : Rdb Try.prog w 9 ((((E.drop 0).take (Try.prog.cellsOf 27)).drop 4).take (Try.prog.cellsOf 9)) := g 4 _ rfl
  have g5 : Rdb Try.prog w 22 ((((E.drop 0).take (Try.prog.cellsOf 27)).drop 5).take (Try.prog.cellsOf 22)) := g 5 _ rfl
  have k0 : Rdb Try.prog w 3 ((((E.drop 6).take (Try.prog.cellsOf 29)).drop 0).take (Try.prog.cellsOf 3)) := k 0 _ rfl
  have k1 : Rdb Try.prog w 3 ((((E.drop 6).take (Try.prog.cellsOf 29)).drop 1).take (Try.prog.cellsOf 3)) := k 1 _ rfl
  clear hf g k hl0 hl1 f0 f1
  rw [Try.cellsHd] at g0 g1 g2 g3 g4 g5
  rw [Try.cellsFr] at k0 k1
  rw [Try.fcellsFs] at f2
  rw [Try.cellsIl] at f3
  rw [Try.cellsHl] at f4
  rw [Try.fcellsFs] at g0 g1 g4
  rw [Try.cellsHi] at g2 g3 k0 k1
  rw [Try.cellsHl] at g5
  match E, hl with
  | [x0, x1, x2, x3, x4, x5, x6, x7, x8, x9, x10], _ =>
    obtain ⟨m, e0, z0⟩ := g0.str Try.underlying9
    obtain ⟨t, e1, z1⟩ := g1.str Try.underlying9
    obtain ⟨mi, e2, z2⟩ := g2.int Try.underlying3
    obtain ⟨st, e3, z3⟩ := g3.int Try.underlying3
    obtain ⟨r, e4, z4⟩ := g4.str Try.underlying9
    obtain ⟨fa, fn, fc, e5⟩ := rdb_slc Try.underlying22 Try.fcellsFld (by omega) g5
    obtain ⟨fk, e6, z6⟩ := k0.int Try.underlying3
    obtain ⟨ln, e7, z7⟩ := k1.int Try.underlying3
    obtain ⟨bd, e8, z8⟩ := f2.str Try.underlying9
    obtain ⟨sa, sn, sc, e9⟩ := rdb_slc Try.underlying30 Try.cellsHi (by omega) f3
    obtain ⟨ta, tn, tc, e10⟩ := rdb_slc Try.underlying22 Try.fcellsFld (by omega) f4
    obtain ⟨b0, b1⟩ := bounds_i64 z3
    simp at e0 e1 e2 e3 e4 e5 e6 e7 e8 e9 e10
    exact ⟨⟨m, t, mi, st, r, fa, fn, fc, fk, ln, bd, sa, sn, sc, ta, tn, tc⟩, by rw [e0, e1, e2, e3, e4, e5, e6, e7, e8, e9, e10]; rfl, z0, b0, b1⟩
theorem msg_arg (v : Value) (w : World) (h : Arg Try.prog w 23 v) : ∃ l, RdM w v l ∧ ∀ x ∈ l, MsgOk x :=
  h.list Try.underlying23 Try.cellsMg (by omega) fun E hE => msg_of hE
theorem fld_args (v : Value) (w : World) (h : Arg Try.prog w 22 v) : ∃ l, RdF w v l ∧ ∀ x ∈ l, FldOk x :=
  h.list (f := fldC) (Q := FldOk) Try.underlying22 Try.fcellsFld (by omega) fun E hE => fld_of Try.underlying64 Try.underlying9 Try.fcellsFld Try.fcellsFs ⟨_, rfl, rfl, rfl⟩ ⟨_, rfl, rfl, rfl⟩ hE

theorem cntF_le (K : List ByteArray) : (cntF K).length ≤ K.length := rkD_len K
theorem rk_rdl {w : World} {B : Nat} {e : TypeId} {v : Value} {l : List Srw} (h : w.ownsRow B e 2 v l.length (l.flatMap encSrw)) : RdRk w v l := RdL.of_own (f := encSrw) (sz := 2) (fun _ => rfl) h
set_option maxRecDepth 100000 in
set_option maxHeartbeats 4000000 in
theorem ttells_walk (v1 v2 : Value) (l : List Fld) (m : List Msg) (w : World) (h1 : RdF w v1 l) (h2 : RdM w v2 m) (hz1 : ∀ p ∈ l, FldOk p) (hz2 : ∀ x ∈ m, MsgOk x) :
    Calls Try.prog 3 #[v1, v2] w fun e w' => e = .returned (.bool true) ∧ Below w.heap.size w w' := by
  have H1 := Kp.mk h1
  have H2 := Kp.mk h2
  have HZ2 := Kp.mk hz2
  have HFW := Kp.mk (few10_any v1 l w h1 hz1)
  obtain ⟨a1, c1, rfl, -, -, -⟩ := h1
  obtain ⟨a2, c2, rfl, g1, g2, -⟩ := h2
  unfold maxLen at g2
  have HLV := Kp.mk (fun W => lives49_any W)
  have hml : m.length ≤ 9223372036854775807 := by omega
  clear hz1 hz2 g1 g2
  go_enter Try.func3, Try.ntmps3
  cases hf : hFew l
  · rw [hf] at HFW
    clear hf
    go_wp2_with fail
    refine HFW.out.mono ?_
    rintro e w2 ⟨rfl, hb2⟩
    have HB2 := Kp.mk hb2
    clear hb2 HFW
    go_wp2_with fail
    refine (HLV.out _).mono ?_
    rintro e w3 ⟨rfl, hb3⟩
    have HB3 := Kp.mk (HB2.out.trans (hb3.mono HB2.out.size))
    clear hb3
    go_wp2_with fail
    go_ret
    exact ⟨rfl, HB3.out⟩
  · have HFO := Kp.mk (hFew_out hf)
    rw [hf] at HFW
    clear hf
    by_cases hm : m.length ≤ 60
    · go_wp2_with fail
      refine HFW.out.mono ?_
      rintro e w2 ⟨rfl, hb2⟩
      have HB2 := Kp.mk hb2
      clear hb2 HFW
      have hd : decide (60 < (m.length : Int)) = false := decide_eq_false (by omega)
      go_wp2_with fail
      go_loopw [18] (fun vi wr => ∃ k : Nat, k ≤ m.length ∧ vi = .int .i64 k ∧ (∀ x ∈ m.take k, MsgSm x) ∧ Below w.heap.size w wr) (fun vi _ => m.length - (intOf vi).toNat)
      case atStart => exact ⟨0, Nat.zero_le _, rfl, by simp, HB2.out⟩
      case round =>
        obtain ⟨k, hk, rfl, hsm, hb⟩ := hrel
        have HSM := Kp.mk hsm
        have HBK := Kp.mk hb
        have hszk := hb.size
        clear hb hsm
        by_cases hlt : k < m.length
        · obtain ⟨b, o, rfl, hbl, d⟩ := rdm_cells (H2.out.below HBK.out) (by omega)
          have HS := Kp.mk (HZ2.out _ (List.getElem_mem hlt))
          have HTK := Kp.mk (List.take_succ_eq_append_getElem hlt)
          obtain ⟨f, hfe⟩ : ∃ f, m[k] = f := ⟨_, rfl⟩
          rw [hfe] at HS HTK
          obtain ⟨m0, t, mi, st, r, fa, fn, fc, fk, ln, bd, sa, sn, sc, ta, tn, tc⟩ := f
          obtain ⟨d0, d1, d2, d3, d4, d5, d6, d7, d8, d9, d10⟩ := msg_cellsW (c := 0) d hlt _ _ _ _ _ _ _ _ _ _ _ _ _ _ _ _ _ hfe
          clear d hfe
          have HBA := Kp.mk (HBK.out.alloc hszk (.cells #[.string m0, .string t, .int .i64 mi, .int .i64 st, .string r, .slice fa fn fc, .int .i64 fk, .int .i64 ln, .string bd, .slice sa sn sc, .slice ta tn tc] 32))
          have q1 : (k : Int) < (m.length : Int) := by omega
          have q0 : (0 : Int) ≤ (k : Int) := by omega
          have hmx := HS.out.1
          unfold maxLen at hmx
          dsimp only at hmx
          by_cases h100 : m0.size ≤ 100
          · have hd2 : decide (100 < (m0.size : Int)) = false := decide_eq_false (by omega)
            have HSM2 := Kp.mk (show ∀ x ∈ m.take (k + 1), MsgSm x from fun x hx => by
              rw [HTK.out] at hx
              rcases List.mem_append.1 hx with hx | hx
              · exact HSM.out x hx
              · simp at hx
                subst hx
                exact ⟨by dsimp only; omega, HS.out.2⟩)
            go_wp2_with fail
            go_roundw
            case rel => exact ⟨k + 1, by omega, by go_num, HSM2.out, HBA.out⟩
            case measure => simp [intOf]; omega
          · have hd2 : decide (100 < (m0.size : Int)) = true := decide_eq_true (by omega)
            go_wp2_with fail
            refine (HLV.out _).mono ?_
            rintro e w3 ⟨rfl, hb3⟩
            have HB3 := Kp.mk (HBA.out.trans (hb3.mono HBA.out.size))
            clear hb3
            go_wp2_with fail
            go_ret
            exact ⟨rfl, HB3.out⟩
        · have hkn : k = m.length := by omega
          have hsa : ∀ x ∈ m, MsgSm x := by have := HSM.out; rwa [List.take_of_length_le (by omega)] at this
          have HA := Kp.mk hsa
          clear hsa HSM hkn
          go_wp2_with fail
          refine (tfields_any _ l wr (H1.out.below HBK.out) HFO.out.2 (by have := HFO.out.1; omega)).mono ?_
          rintro e w3 ⟨u3, rfl, ho3, hb3⟩
          have HO3 := Kp.mk ho3
          have HB3 := Kp.mk (HBK.out.trans (hb3.mono hszk))
          obtain ⟨x3, y3, rfl⟩ := own_lenT ho3
          clear ho3 hb3
          go_wp2_with fail
          refine (rtfields_any _ l w3 (H1.out.below HB3.out) HFO.out.2 (by have := HFO.out.1; omega)).mono ?_
          rintro e w4 ⟨u4, rfl, ho4, hb4⟩
          have HO4 := Kp.mk ho4
          have HO34 := Kp.mk (own_stT HO3.out hb4)
          have HB4 := Kp.mk (HB3.out.trans (hb4.mono HB3.out.size))
          obtain ⟨x4, y4, rfl⟩ := own_lenT ho4
          clear ho4 hb4
          have hkk := cntF_le (keysT l)
          rw [keysT_len] at hkk
          have hk1 : (cntF (keysT l)).length ≤ 40 := by have := HFO.out.1; omega
          clear hkk
          generalize cntF (keysT l) = K at *
          go_wp2_with fail
          refine (tsame_any _ _ K w4 (rk_rdl HO34.out) (rk_rdl HO4.out) (by omega)).mono ?_
          rintro e w5 ⟨rfl, hb5⟩
          have HB5 := Kp.mk (HB4.out.trans (hb5.mono HB4.out.size))
          clear hb5 HO3 HO34 HO4 hk1
          go_wp2_with fail
          refine (tmeths_any _ m w5 (H2.out.below HB5.out) HA.out (by omega)).mono ?_
          rintro e w6 ⟨u6, rfl, ho6, hb6⟩
          have HO6 := Kp.mk ho6
          have HB6 := Kp.mk (HB5.out.trans (hb6.mono HB5.out.size))
          obtain ⟨x6, y6, rfl⟩ := own_lenT ho6
          clear ho6 hb6
          go_wp2_with fail
          refine (rtheads_any _ true m w6 (H2.out.below HB6.out) HA.out (by omega)).mono ?_
          rintro e w7 ⟨u7, rfl, ho7, hb7⟩
          have HO7 := Kp.mk ho7
          have HOO7 := Kp.mk (own_stT HO6.out hb7)
          have HB7 := Kp.mk (HB6.out.trans (hb7.mono HB6.out.size))
          obtain ⟨x7, y7, rfl⟩ := own_lenT ho7
          clear ho7 hb7
          have hkk7 := cntF_le (keysM true m)
          have hkm7 := keysM_len true m
          have hk7 : (cntF (keysM true m)).length ≤ 60 := by omega
          clear hkk7 hkm7
          generalize cntF (keysM true m) = K7 at *
          go_wp2_with fail
          refine (tsame_any _ _ K7 w7 (rk_rdl HOO7.out) (rk_rdl HO7.out) (by omega)).mono ?_
          rintro e w8 ⟨rfl, hb8⟩
          have HB8 := Kp.mk (HB7.out.trans (hb8.mono HB7.out.size))
          clear hb8 HO6 HO7 HOO7 hk7
          go_wp2_with fail
          refine (tstats_any _ m w8 (H2.out.below HB8.out) HA.out (by omega)).mono ?_
          rintro e w9 ⟨u9, rfl, ho9, hb9⟩
          have HO9 := Kp.mk ho9
          have HB9 := Kp.mk (HB8.out.trans (hb9.mono HB8.out.size))
          obtain ⟨x9, y9, rfl⟩ := own_lenT ho9
          clear ho9 hb9
          go_wp2_with fail
          refine (rtheads_any _ false m w9 (H2.out.below HB9.out) HA.out (by omega)).mono ?_
          rintro e w10 ⟨u10, rfl, ho10, hb10⟩
          have HO10 := Kp.mk ho10
          have HOO10 := Kp.mk (own_stT HO9.out hb10)
          have HB10 := Kp.mk (HB9.out.trans (hb10.mono HB9.out.size))
          obtain ⟨x10, y10, rfl⟩ := own_lenT ho10
          clear ho10 hb10
          have hkk10 := cntF_le (keysM false m)
          have hkm10 := keysM_len false m
          have hk10 : (cntF (keysM false m)).length ≤ 60 := by omega
          clear hkk10 hkm10
          generalize cntF (keysM false m) = K10 at *
          go_wp2_with fail
          refine (tsame_any _ _ K10 w10 (rk_rdl HOO10.out) (rk_rdl HO10.out) (by omega)).mono ?_
          rintro e w11 ⟨rfl, hb11⟩
          have HB11 := Kp.mk (HB10.out.trans (hb11.mono HB10.out.size))
          clear hb11 HO9 HO10 HOO10 hk10
          go_wp2_with fail
          refine (HLV.out _).mono ?_
          rintro e w20 ⟨rfl, hb20⟩
          have HB20 := Kp.mk (HB11.out.trans (hb20.mono HB11.out.size))
          clear hb20
          go_wp2_with fail
          go_ret
          exact ⟨rfl, HB20.out⟩
    · go_wp2_with fail
      refine HFW.out.mono ?_
      rintro e w2 ⟨rfl, hb2⟩
      have HB2 := Kp.mk hb2
      clear hb2 HFW
      have hd : decide (60 < (m.length : Int)) = true := decide_eq_true (by omega)
      go_wp2_with fail
      refine (HLV.out _).mono ?_
      rintro e w3 ⟨rfl, hb3⟩
      have HB3 := Kp.mk (HB2.out.trans (hb3.mono HB2.out.size))
      clear hb3
      go_wp2_with fail
      go_ret
      exact ⟨rfl, HB3.out⟩
theorem ttells_arg (v0 v1 : Value) (w : World) (h0 : Arg Try.prog w 22 v0) (h1 : Arg Try.prog w 23 v1) :
    Calls Try.prog 3 #[v0, v1] w fun e w' => e = .returned (.bool true) ∧ Below w.heap.size w w' := by
  obtain ⟨l, hl, hz⟩ := fld_args v0 w h0
  obtain ⟨m, hm, hy⟩ := msg_arg v1 w h1
  exact ttells_walk v0 v1 l m w hl hm hz hy
end Go.Proofs.Ytocnecbhpofdgaa
