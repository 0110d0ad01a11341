/- Things in slots (layer 40): the law TablePlays (bin/mktbm.py). -/
import Derived.Test.YtgamekfickheaaaTbl
namespace Go.Proofs.Ytgamekfickheaaa
open Go.RowKit
set_option linter.unusedVariables false
set_option linter.unusedSimpArgs false

abbrev TAc := Int × Int × Int
def tactC (p : TAc) : List Value := [.int .i64 p.1, .int .i64 p.2.1, .int .i64 p.2.2]
theorem tact_cells {w : World} {a : Option Addr} {c n : Nat} {l : List TAc} (h : RdL tactC 3 w (.slice a n c) l) (h0 : 0 < l.length) : ∃ b o, a = some ⟨b, o, none⟩ ∧ b < w.heap.size ∧ ∀ (j : Nat) (h : j < l.length), w.cell? ⟨b, o + j * 3, none⟩ = some (.int .i64 l[j].1) ∧ w.cell? ⟨b, o + j * 3 + 1, none⟩ = some (.int .i64 l[j].2.1) ∧ w.cell? ⟨b, o + j * 3 + 2, none⟩ = some (.int .i64 l[j].2.2) := by
  obtain ⟨a', c', h1, h2, h3, h4⟩ := h
  cases h1
  obtain ⟨b, o, g1, g2, g3⟩ := h4 h0
  exact ⟨b, o, g1, g2, fun j hj => ⟨by have := g3 j hj 0 (by omega); simpa [tactC] using this, by have := g3 j hj 1 (by omega); simpa [tactC] using this, by have := g3 j hj 2 (by omega); simpa [tactC] using this⟩⟩
theorem tact_of {P : Program} {w : World} {t ti : TypeId} {fs : Array Field} {E : List Value} (ht : P.underlying t = some (.struct fs)) (hi : P.underlying ti = some (.int .i64)) (hc : P.cellsOf t = 3) (hci : P.cellsOf ti = 1)
    (h0 : ∃ f, fs[0]? = some f ∧ f.type = ti ∧ f.offset = 0) (h1 : ∃ f, fs[1]? = some f ∧ f.type = ti ∧ f.offset = 1) (h2 : ∃ f, fs[2]? = some f ∧ f.type = ti ∧ f.offset = 2) (h : Rdb P w t E) :
    ∃ p : TAc, E = tactC p ∧ ((Lit.int .i64 p.1).wf = true ∧ (Lit.int .i64 p.2.1).wf = true ∧ (Lit.int .i64 p.2.2).wf = true) := by
  obtain ⟨hl, hf⟩ := h.struct ht
  obtain ⟨f0, e0, t0, o0⟩ := h0
  obtain ⟨f1, e1, t1, o1⟩ := h1
  obtain ⟨f2, e2, t2, o2⟩ := h2
  have g0 := hf 0 f0 e0
  have g1 := hf 1 f1 e1
  have g2 := hf 2 f2 e2
  rw [t0, o0, hci] at g0
  rw [t1, o1, hci] at g1
  rw [t2, o2, hci] at g2
  obtain ⟨s0, k0, z0⟩ := g0.int hi
  obtain ⟨s1, k1, z1⟩ := g1.int hi
  obtain ⟨s2, k2, z2⟩ := g2.int hi
  rw [hc] at hl
  match E, hl with
  | [x, y, z], _ =>
    simp at k0 k1 k2
    exact ⟨(s0, s1, s2), by simp [tactC, k0, k1, k2], z0, z1, z2⟩
theorem Try.fcellsTAc : Try.prog.cellsOf 48 = 3 := by kernel_rfl
theorem Try.fcellsTI : Try.prog.cellsOf 3 = 1 := by kernel_rfl
theorem tacts_arg (v1 : Value) (w : World) (h1 : Arg Try.prog w 43 v1) : ∃ ps, RdL tactC 3 w v1 ps ∧ ∀ p ∈ ps, (Lit.int .i64 p.1).wf = true ∧ (Lit.int .i64 p.2.1).wf = true ∧ (Lit.int .i64 p.2.2).wf = true :=
  h1.list (f := tactC) (Q := fun p => (Lit.int .i64 p.1).wf = true ∧ (Lit.int .i64 p.2.1).wf = true ∧ (Lit.int .i64 p.2.2).wf = true) Try.underlying43 Try.fcellsTAc (by omega) fun E hE =>
    tact_of Try.underlying48 Try.underlying3 Try.fcellsTAc Try.fcellsTI ⟨_, rfl, rfl, rfl⟩ ⟨_, rfl, rfl, rfl⟩ ⟨_, rfl, rfl, rfl⟩ hE
theorem putS_len (S : List Slt) (x : Int) : (putS S x).length = S.length := by
  unfold putS; split
  · exact List.length_set
  · rfl
theorem dropS_len (S : List Slt) (n : Int) : (dropS S n).length = S.length := by
  unfold dropS; split
  · exact List.length_set
  · rfl
/-- What holds at each round's head. -/
structure PlI (b g most : Nat) (vw : Value) (S : List Slt) (w wr : World) : Prop where
  t : TB b g S wr
  r : RdW wr vw S
  ne : 0 < S.length → vw.ownBlock ≠ some g
  ln : S.length = most
  bl : Below w.heap.size w wr
  hg : w.heap.size ≤ g
theorem PlI.below {b g most : Nat} {vw : Value} {S : List Slt} {w wr w' : World} (h : PlI b g most vw S w wr) (hb : Below wr.heap.size wr w') : PlI b g most vw S w w' :=
  ⟨h.t.below hb, h.r.below hb, h.ne, h.ln, h.bl.trans (hb.mono h.bl.size), h.hg⟩
/-- The table and the slots have been changed, one behind the other. -/
theorem PlI.both {b g most : Nat} {vw v2 : Value} {S S2 : List Slt} {w wr w1 w2 : World} (h : PlI b g most vw S w wr) (hb : Below wr.heap.size wr w1) (hr : RdW w1 v2 S2) (hn : NewV vw v2 wr) (hk : Kpt (fun k => k ≠ g) w1 w2) (ht : TB b g S2 w2) (hl : S2.length = S.length) : PlI b g most v2 S2 w w2 := by
  have hgl := blk_lt h.t.hg
  have hne : 0 < S2.length → v2.ownBlock ≠ some g := by
    rcases hn with rfl | hn
    · rw [hl]; exact h.ne
    · intro _ e
      have := hn g e
      omega
  have hs := h.bl.size
  have hs1 := hb.size
  refine ⟨ht, hk.rdw hr (fun h0 k e => by rintro rfl; exact hne h0 e), hne, hl.trans h.ln, (h.bl.trans (hb.mono hs)).trans (hk.below (by omega) fun k hk => ?_), h.hg⟩
  have := h.hg
  omega
set_option maxRecDepth 100000 in
set_option maxHeartbeats 8000000 in
theorem tplays_walk (most : Int) (v : Value) (ps : List TAc) (w : World) (hv : RdL tactC 3 w v ps) :
    Calls Try.prog 7 #[.int .i64 most, v] w fun e w' => e = .returned (.bool true) ∧ Below w.heap.size w w' := by
  have HV := Kp.mk hv
  obtain ⟨a, cap, rfl, hc1, hc2, -⟩ := hv
  have hll : ps.length ≤ 9223372036854775807 := by unfold maxLen at hc2; omega
  clear hc2
  by_cases h0 : most < 0
  · have h0' : ¬ 0 ≤ most := by omega
    go_enter Try.func7, Try.ntmps7
    go_wp2_with fail
    refine (tnew_far most _ (.inl h0)).mono ?_
    rintro e w1 ⟨rfl, rfl⟩
    go_wp2_with fail
    refine (lives40_any _).mono ?_
    rintro e w2 ⟨rfl, hb2⟩
    go_wp2_with fail
    go_ret
    exact ⟨rfl, hb2⟩
  · have h0' : 0 ≤ most := by omega
    by_cases h2 : 200 < most
    · by_cases h3 : most ≤ 1000
      · go_enter Try.func7, Try.ntmps7
        go_wp2_with fail
        refine (lives40_any _).mono ?_
        rintro e w2 ⟨rfl, hb2⟩
        go_wp2_with fail
        go_ret
        exact ⟨rfl, hb2⟩
      · go_enter Try.func7, Try.ntmps7
        go_wp2_with fail
        refine (tnew_far most _ (.inr (by omega))).mono ?_
        rintro e w1 ⟨rfl, rfl⟩
        go_wp2_with fail
        refine (lives40_any _).mono ?_
        rintro e w2 ⟨rfl, hb2⟩
        go_wp2_with fail
        go_ret
        exact ⟨rfl, hb2⟩
    · have h3 : most ≤ 1000 := by omega
      by_cases hn : 100 < ps.length
      · have q1 : (100 : Int) < (ps.length : Int) := by omega
        go_enter Try.func7, Try.ntmps7
        go_wp2_with fail
        refine (lives40_any _).mono ?_
        rintro e w2 ⟨rfl, hb2⟩
        go_wp2_with fail
        go_ret
        exact ⟨rfl, hb2⟩
      · have q1 : ¬ (100 : Int) < (ps.length : Int) := by omega
        obtain ⟨n, rfl⟩ : ∃ n : Nat, most = (n : Int) := ⟨most.toNat, by omega⟩
        have hn2 : n ≤ 1000 := by omega
        have HN := Kp.mk hn2
        have hmk := fun w => make_slts 46 129 Try.underlying46 Try.infoRs n hn2 w
        have HS := Kp.mk (List.length_replicate (n := n) (a := ((0 : Int), false)))
        have HNW := Kp.mk (fun w => tnew_any n w hn2)
        clear hn2
        generalize List.replicate n ((0 : Int), false) = S0 at *
        go_enter Try.func7, Try.ntmps7
        go_upto_region 3 with fail
        go_cut [5, 6] (fun v5 v6 wr => ∃ b g vg : Nat, v5 = .pointer (some ⟨b, 0, none⟩) ∧ v6 = .slice (some ⟨vg, 0, none⟩) n n ∧ TB b g S0 wr ∧ wr.heap[vg]? = some (.cells (slL S0).toArray 129 (0, 0)) ∧ Below w.heap.size w wr ∧ w.heap.size ≤ g ∧ g ≠ vg)
        case first =>
          first
            | go_region_with (first
                | (go_at_call 29; refine (HNW.out _).mono ?_; rintro e wq ⟨b, g, rfl, ht, hb, hg⟩; have HT := Kp.mk ht; have HB := Kp.mk hb; have HG := Kp.mk hg; clear ht hb hg))
            | fail
          · go_wp2_with fail
            go_meet
            have hz : w.heap.size ≤ wq.heap.size := HB.out.size
            have hgq := blk_lt HT.out.hg
            exact ⟨b, g, wq.heap.size, rfl, rfl, HT.out.below ((Below.refl _ _).alloc (Nat.le_refl _) _), heap_alloc_new _ _, ((Below.refl w.heap.size w).drew.trans HB.out).alloc hz _, HG.out, by omega⟩
          · go_wp2_with fail
            go_meet
            have hz : w.heap.size < (w.alloc (.cells (slL S0).toArray 129)).drew.heap.size := blk_lt (heap_alloc_new w (.cells (slL S0).toArray 129))
            have hg1 := HG.out
            exact ⟨b, g, w.heap.size, rfl, rfl, HT.out, (HB.out.block _ hz).trans (heap_alloc_new w (.cells (slL S0).toArray 129)), ((Below.refl w.heap.size w).alloc (Nat.le_refl _) _).drew.trans (HB.out.mono (Nat.le_of_lt hz)), by omega, by omega⟩
        case rest =>
          obtain ⟨b, g, vg, rfl, rfl, ht, hvg, hbl, hg, hne⟩ := hcut
          have HI0 := Kp.mk (show PlI b g n (.slice (some ⟨vg, 0, none⟩) n n) S0 w wc from
            ⟨ht, ⟨_, _, by rw [HS.out], by rw [HS.out]; exact Nat.le_refl _, by have := HN.out; unfold maxLen; omega, fun _ => ⟨vg, 0, rfl, blk_lt hvg, fun j hj i hi => by
              rw [Nat.zero_add]
              have h7 := flat_at (f := slC) (sz := 2) (fun _ => rfl) S0 j hj i hi
              have h8 : i < (slC S0[j]).length := hi
              rw [List.getElem?_eq_getElem h8] at h7 ⊢
              exact blk_cell hvg (by rw [List.getElem?_toArray]; exact h7)⟩⟩, fun _ e => by simp [Value.ownBlock] at e; omega, HS.out, hbl, hg⟩)
          clear ht hvg hbl hg hne
          go_wp2_with fail
          go_loopw [6, 51] (fun vw i wr => ∃ (k : Nat) (S : List Slt), k ≤ ps.length ∧ i = .int .i64 k ∧ PlI b g n vw S w wr) (fun _ i _ => ps.length - (intOf i).toNat)
          case atStart => exact ⟨0, S0, by omega, rfl, HI0.out⟩
          case round =>
            obtain ⟨k, S, hk, rfl, hI⟩ := hrel
            have HI := Kp.mk hI
            have hSl : S.length ≤ 1000 := by have h1 := hI.ln; have h2 := HN.out; omega
            clear hI
            by_cases hlt : k < ps.length
            · obtain ⟨g9, o, rfl, hgl, d0⟩ := tact_cells (HV.out.below HI.out.bl) (by omega)
              obtain ⟨c1, c2, c3⟩ := d0 k hlt
              have q2 : (k : Int) < (ps.length : Int) := by omega
              generalize ps[k] = p at *
              obtain ⟨d, at_, x⟩ := p
              dsimp only at c1 c2 c3
              have hbx := heap_alloc_new wr (.cells #[.int .i64 d, .int .i64 at_, .int .i64 x] 48)
              have HBX := Kp.mk hbx
              have b0 := blk_cell (i := 0) hbx rfl
              have b1 := blk_cell (i := 1) hbx rfl
              have b2 := blk_cell (i := 2) hbx rfl
              have HJ := Kp.mk (HI.out.below ((Below.refl _ _).alloc (Nat.le_refl _) (.cells #[.int .i64 d, .int .i64 at_, .int .i64 x] 48)))
              have hgw : g < wr.heap.size := blk_lt HI.out.t.hg
              obtain ⟨av, cv, rfl⟩ := rdw_form HI.out.r
              clear hbx d0
              by_cases hd1 : d = 1
              · subst hd1
                have HPL := Kp.mk (putS_len S x)
                have HRS := Kp.mk (fun w h => rsput_any (.slice av S.length cv) S x w h hSl)
                have HTP := Kp.mk (fun w h => tputv_any b g S x w h hSl)
                unfold RsPut at HRS
                cases hpb : putB S
                all_goals
                  rw [hpb] at HRS HTP
                  go_wp2_with fail
                  refine (HRS.out _ HJ.out.r).mono ?_
                  rintro e w2 ⟨v2, rfl, hr, hnv, hb⟩
                  have HR := Kp.mk hr
                  have HNV := Kp.mk hnv
                  have HB := Kp.mk hb
                  have hbx2 := (hb.block _ (blk_lt HBX.out)).trans HBX.out
                  have b1 := blk_cell (i := 1) hbx2 rfl
                  have b2 := blk_cell (i := 2) hbx2 rfl
                  have HT := Kp.mk (HJ.out.t.below hb)
                  obtain ⟨a3, cp3, rfl⟩ := rdw_form hr
                  clear hr hnv hb hbx2
                  go_wp2_with fail
                  refine (HTP.out _ HT.out).mono ?_
                  rintro e w3 ⟨rfl, ht, hk3⟩
                  have HX := Kp.mk (HJ.out.both HB.out HR.out HNV.out hk3 ht HPL.out)
                  clear ht hk3
                  go_wp2_with fail
                  refine (tsame_any b g _ _ _ HX.out.t HX.out.r (by rw [HPL.out]; exact hSl)).mono ?_
                  rintro e w4 ⟨rfl, hb4⟩
                  have HX4 := Kp.mk (HX.out.below hb4)
                  clear hb4
                  go_wp2_with fail
                  go_roundw
                  case rel => exact ⟨k + 1, _, by omega, by go_num, HX4.out⟩
                  case measure => simp [intOf]; omega
              · have hd1b : (d == 1) = false := by rw [beq_eq_false_iff_ne]; exact hd1
                by_cases hd2 : d = 2
                · subst hd2
                  have HG1 := Kp.mk (fun w h => tget_any b g S at_ w h hSl)
                  have HG2 := Kp.mk (fun w h => rsget_any (.slice av S.length cv) S at_ w h hSl)
                  have HRX := Kp.mk (show rgX S at_ = if (getP S at_).2 = true then (getP S at_).1 else 0 from rfl)
                  cases hgb : (getP S at_).2
                  · rw [hgb] at HG1 HG2 HRX
                    generalize rgX S at_ = RX at *
                    generalize (getP S at_).1 = GX at *
                    go_wp2_with fail
                    refine (HG1.out _ HJ.out.t).mono ?_
                    rintro e w2 ⟨rfl, hb⟩
                    have HX := Kp.mk (HJ.out.below hb)
                    have hbx2 := (hb.block _ (blk_lt HBX.out)).trans HBX.out
                    have HBX2 := Kp.mk hbx2
                    have b1 := blk_cell (i := 1) hbx2 rfl
                    clear hb hbx2
                    go_wp2_with fail
                    refine (HG2.out _ HX.out.r).mono ?_
                    rintro e w3 ⟨rfl, hb⟩
                    have HX3 := Kp.mk (HX.out.below hb)
                    clear hb
                    go_wp2_with fail
                    refine (tsame_any b g _ _ _ HX3.out.t HX3.out.r hSl).mono ?_
                    rintro e w4 ⟨rfl, hb4⟩
                    have HX4 := Kp.mk (HX3.out.below hb4)
                    clear hb4
                    go_wp2_with fail
                    go_roundw
                    case rel => exact ⟨k + 1, S, by omega, by go_num, HX4.out⟩
                    case measure => simp [intOf]; omega
                  · rw [hgb] at HG1 HG2 HRX
                    rw [show rgX S at_ = (getP S at_).1 from HRX.out.trans (if_pos rfl)] at HG2
                    generalize (getP S at_).1 = GX at *
                    have hxx : (GX != GX) = false := by simp
                    go_wp2_with fail
                    refine (HG1.out _ HJ.out.t).mono ?_
                    rintro e w2 ⟨rfl, hb⟩
                    have HX := Kp.mk (HJ.out.below hb)
                    have hbx2 := (hb.block _ (blk_lt HBX.out)).trans HBX.out
                    have HBX2 := Kp.mk hbx2
                    have b1 := blk_cell (i := 1) hbx2 rfl
                    clear hb hbx2
                    go_wp2_with fail
                    refine (HG2.out _ HX.out.r).mono ?_
                    rintro e w3 ⟨rfl, hb⟩
                    have HX3 := Kp.mk (HX.out.below hb)
                    clear hb
                    go_wp2_with fail
                    refine (tsame_any b g _ _ _ HX3.out.t HX3.out.r hSl).mono ?_
                    rintro e w4 ⟨rfl, hb4⟩
                    have HX4 := Kp.mk (HX3.out.below hb4)
                    clear hb4
                    go_wp2_with fail
                    go_roundw
                    case rel => exact ⟨k + 1, S, by omega, by go_num, HX4.out⟩
                    case measure => simp [intOf]; omega
                · have hd2b : (d == 2) = false := by rw [beq_eq_false_iff_ne]; exact hd2
                  have HDL := Kp.mk (dropS_len S at_)
                  have HRD := Kp.mk (fun w h => rsdrop_any (.slice av S.length cv) S at_ w h hSl)
                  have HTD := Kp.mk (fun w h => tdrop_any b g S at_ w h hSl)
                  unfold RsDrop at HRD
                  unfold DropT at HTD
                  generalize (getP S at_).2 = GB at *
                  have hbb : (GB != GB) = false := by simp
                  go_wp2_with fail
                  refine (HRD.out _ HJ.out.r).mono ?_
                  rintro e w2 ⟨v2, rfl, hr, hnv, hb⟩
                  have HR := Kp.mk hr
                  have HNV := Kp.mk hnv
                  have HB := Kp.mk hb
                  have hbx2 := (hb.block _ (blk_lt HBX.out)).trans HBX.out
                  have b1 := blk_cell (i := 1) hbx2 rfl
                  have b2 := blk_cell (i := 2) hbx2 rfl
                  have HT := Kp.mk (HJ.out.t.below hb)
                  obtain ⟨a3, cp3, rfl⟩ := rdw_form hr
                  clear hr hnv hb hbx2
                  go_wp2_with fail
                  refine (HTD.out _ HT.out).mono ?_
                  rintro e w3 ⟨rfl, ht, hk3⟩
                  have HX := Kp.mk (HJ.out.both HB.out HR.out HNV.out hk3 ht HDL.out)
                  clear ht hk3
                  go_wp2_with fail
                  refine (tsame_any b g _ _ _ HX.out.t HX.out.r (by rw [HDL.out]; exact hSl)).mono ?_
                  rintro e w4 ⟨rfl, hb4⟩
                  have HX4 := Kp.mk (HX.out.below hb4)
                  clear hb4
                  go_wp2_with fail
                  go_roundw
                  case rel => exact ⟨k + 1, _, by omega, by go_num, HX4.out⟩
                  case measure => simp [intOf]; omega
            · obtain rfl : k = ps.length := by omega
              go_wp2_with fail
              refine (lives40_any _).mono ?_
              rintro e w2 ⟨rfl, hb2⟩
              go_wp2_with fail
              go_ret
              exact ⟨rfl, HI.out.bl.trans (hb2.mono HI.out.bl.size)⟩
theorem tplays_arg (v0 v1 : Value) (w : World) (h0 : Arg Try.prog w 3 v0) (h1 : Arg Try.prog w 43 v1) :
    Calls Try.prog 7 #[v0, v1] w fun e w' => e = .returned (.bool true) ∧ Below w.heap.size w w' := by
  obtain ⟨n, rfl, _⟩ := h0.int Try.underlying3
  obtain ⟨ps, hv, -⟩ := tacts_arg v1 w h1
  exact tplays_walk n v1 ps w hv
end Go.Proofs.Ytgamekfickheaaa
