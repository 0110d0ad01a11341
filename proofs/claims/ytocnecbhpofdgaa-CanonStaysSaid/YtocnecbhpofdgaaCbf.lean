/- Fields in one form (layer 50): the law CanonFields, whatever comes in. -/
import Derived.Test.YtocnecbhpofdgaaCbd
import Derived.Test.YtocnecbhpofdgaaFew
namespace Go.Proofs.Ytocnecbhpofdgaa
open Go.RowKit
set_option linter.unusedVariables false
set_option linter.unusedSimpArgs false

theorem sameL_self {α : Type} [DecidableEq α] (l : List α) : sameL l l = true := decide_eq_true rfl
theorem hlist_argB (v : Value) (w : World) (h : Arg Try.prog w 22 v) : ∃ l, RdF w v l ∧ ∀ p ∈ l, FldOk p :=
  h.list (f := fldC) (Q := FldOk) Try.underlying22 Try.fcellsFld (by omega) fun E hE =>
    fld_of Try.underlying64 Try.underlying9 Try.fcellsFld Try.fcellsFs ⟨_, rfl, rfl, rfl⟩ ⟨_, rfl, rfl, rfl⟩ hE
set_option maxRecDepth 100000 in
set_option maxHeartbeats 4000000 in
theorem cfields_walk (v1 v2 : Value) (l m : List Fld) (w : World) (h1 : RdF w v1 l) (h2 : RdF w v2 m) (hz1 : ∀ p ∈ l, FldOk p) (hz2 : ∀ p ∈ m, FldOk p) :
    Calls Try.prog 6 #[v1, v2] w fun e w' => e = .returned (.bool true) ∧ Below w.heap.size w w' := by
  have H1 := Kp.mk h1
  have H2 := Kp.mk h2
  have FW1 := Kp.mk (few10_any v1 l w h1 hz1)
  have FW2 := Kp.mk (fun w2 (hb : Below w.heap.size w w2) => few10_any v2 m w2 (h2.below hb) hz2)
  obtain ⟨a1, c1, rfl, -, -, -⟩ := h1
  obtain ⟨a2, c2, rfl, -, -, -⟩ := h2
  clear hz1 hz2
  have HO1 := Kp.mk (fun h => And.intro (hFew_out (l := l) h) (hFew_vals h))
  have HO2 := Kp.mk (fun h => And.intro (hFew_out (l := m) h) (hFew_vals h))
  go_enter Try.func6, Try.ntmps6
  go_wp2_with fail
  refine FW1.out.mono ?_
  rintro e w1 ⟨rfl, hb1⟩
  have HB1 := Kp.mk hb1
  clear hb1
  generalize hFew l = f1 at *
  cases f1
  · go_wp2_with fail
    refine (lives50_any _).mono ?_
    rintro e w2 ⟨rfl, hb2⟩
    go_wp2_with fail
    go_ret
    exact ⟨rfl, HB1.out.trans (hb2.mono HB1.out.size)⟩
  go_wp2_with fail
  refine (FW2.out _ HB1.out).mono ?_
  rintro e w2 ⟨rfl, hb2⟩
  have HB2 := Kp.mk (HB1.out.trans (hb2.mono HB1.out.size))
  clear hb2
  generalize hFew m = f2 at *
  cases f2
  · go_wp2_with fail
    refine (lives50_any _).mono ?_
    rintro e w3 ⟨rfl, hb3⟩
    go_wp2_with fail
    go_ret
    exact ⟨rfl, HB2.out.trans (hb3.mono HB2.out.size)⟩
  obtain ⟨⟨hl1, hs1⟩, hv1⟩ := HO1.out (by first | rfl | trivial)
  obtain ⟨⟨hl2, hs2⟩, hv2⟩ := HO2.out (by first | rfl | trivial)
  have hc1 := cFld_small (l := l) (by omega) hv1
  have hc2 := cFld_small (l := m) (by omega) hv2
  have hn1 := cFld_len l
  have CF := Kp.mk (fun w5 (hb : Below w.heap.size w w5) => cfields_any (.slice a1 l.length c1) l w5 (H1.out.below hb) hs1 (by omega))
  have RF := Kp.mk (fun w5 (hb : Below w.heap.size w w5) => rfields_c (.slice a1 l.length c1) l w5 (H1.out.below hb) hs1 (by omega))
  have CS := Kp.mk (fun w5 (hb : Below w.heap.size w w5) => csame_any (.slice a1 l.length c1) (.slice a2 m.length c2) l m w5 (H1.out.below hb) (H2.out.below hb) hs1 hs2 (by omega) (by omega))
  have RS := Kp.mk (fun w5 (hb : Below w.heap.size w w5) => rsame50_any (.slice a1 l.length c1) (.slice a2 m.length c2) l m w5 (H1.out.below hb) (H2.out.below hb) hs1 hs2 (by omega) (by omega) hc1 hc2)
  have CL := Kp.mk (fun w5 (hb : Below w.heap.size w w5) => clines_any (.slice a1 l.length c1) l w5 (H1.out.below hb) hs1 (by omega) hc1)
  have RL := Kp.mk (fun w5 (hb : Below w.heap.size w w5) => rlines_any (.slice a1 l.length c1) l w5 (H1.out.below hb) hs1 (by omega) hc1)
  have HSA := Kp.mk (cSr_same l m)
  rw [HSA.out] at CS
  have hml : ((cFld l).map lnC).length = (cFld l).length := List.length_map ..
  have HNL := Kp.mk (show (cFld l).length ≤ 100 ∧ ((cFld l).map lnC).length ≤ 100 by omega)
  clear hc1 hc2 hn1 hs1 hs2 hv1 hv2 hl1 hl2 hml HO1 HO2 FW1 FW2
  generalize rSm (cFld l) (cFld m) = b at *
  generalize (cFld l).map lnC = LN at *
  generalize cFld l = F at *
  unfold RetF at CF RF
  unfold RetS at CL RL
  go_wp2_with fail
  refine (CF.out _ HB2.out).mono ?_
  rintro e w3 ⟨u3, rfl, ho3, hb3⟩
  have HO3 := Kp.mk ho3
  have HB3 := Kp.mk (HB2.out.trans (hb3.mono HB2.out.size))
  obtain ⟨a3, c3, rfl⟩ := own_lenH ho3
  clear ho3 hb3
  go_wp2_with fail
  refine (RF.out _ HB3.out).mono ?_
  rintro e w4 ⟨u4, rfl, ho4, hb4⟩
  have HB4 := Kp.mk (HB3.out.trans (hb4.mono HB3.out.size))
  obtain ⟨a4, c4, rfl⟩ := own_lenH ho4
  have SM := Kp.mk (rfsame_any (.slice a3 F.length c3) (.slice a4 F.length c4) F F w4 (rdf_own (own_bel HO3.out hb4)) (rdf_own ho4) (by have := HNL.out; omega) (by have := HNL.out; omega))
  rw [sameL_self] at SM
  clear ho4 hb4
  go_wp2_with fail
  refine SM.out.mono ?_
  rintro e w5 ⟨rfl, hb5⟩
  have HB5 := Kp.mk (HB4.out.trans (hb5.mono HB4.out.size))
  clear hb5
  go_wp2_with fail
  refine (CS.out _ HB5.out).mono ?_
  rintro e w6 ⟨rfl, hb6⟩
  have HB6 := Kp.mk (HB5.out.trans (hb6.mono HB5.out.size))
  clear hb6
  go_wp2_with fail
  refine (RS.out _ HB6.out).mono ?_
  rintro e w7 ⟨rfl, hb7⟩
  have HB7 := Kp.mk (HB6.out.trans (hb7.mono HB6.out.size))
  clear hb7
  cases b
  all_goals
    go_wp2_with fail
    refine (CL.out _ HB7.out).mono ?_
    rintro e w8 ⟨u8, rfl, ho8, hb8⟩
    have HO8 := Kp.mk ho8
    have HB8 := Kp.mk (HB7.out.trans (hb8.mono HB7.out.size))
    obtain ⟨a8, c8, rfl⟩ := own_lenH ho8
    clear ho8 hb8
    go_wp2_with fail
    refine (RL.out _ HB8.out).mono ?_
    rintro e w9 ⟨u9, rfl, ho9, hb9⟩
    have HB9 := Kp.mk (HB8.out.trans (hb9.mono HB8.out.size))
    obtain ⟨a9, c9, rfl⟩ := own_lenH ho9
    have SN := Kp.mk (rssame_any (.slice a8 LN.length c8) (.slice a9 LN.length c9) LN LN w9 (rds_own (own_bel HO8.out hb9)) (rds_own ho9) (by have := HNL.out; omega) (by have := HNL.out; omega))
    rw [sameL_self] at SN
    clear ho9 hb9
    go_wp2_with fail
    refine SN.out.mono ?_
    rintro e w10 ⟨rfl, hb10⟩
    have HB10 := Kp.mk (HB9.out.trans (hb10.mono HB9.out.size))
    clear hb10
    go_wp2_with fail
    refine (lives50_any _).mono ?_
    rintro e w11 ⟨rfl, hb11⟩
    go_wp2_with fail
    go_ret
    exact ⟨rfl, HB10.out.trans (hb11.mono HB10.out.size)⟩
theorem cfields_arg (v0 v1 : Value) (w : World) (h0 : Arg Try.prog w 22 v0) (h1 : Arg Try.prog w 22 v1) :
    Calls Try.prog 6 #[v0, v1] w fun e w' => e = .returned (.bool true) ∧ Below w.heap.size w w' := by
  obtain ⟨l, hl, hz⟩ := hlist_argB v0 w h0
  obtain ⟨m, hm, hy⟩ := hlist_argB v1 w h1
  exact cfields_walk v0 v1 l m w hl hm hz hy
end Go.Proofs.Ytocnecbhpofdgaa
