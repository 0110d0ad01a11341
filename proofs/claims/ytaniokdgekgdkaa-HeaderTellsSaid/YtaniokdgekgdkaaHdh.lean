/- HeaderTells (layer 10). -/
import Derived.Test.YtaniokdgekgdkaaHdg
namespace Go.Proofs.Ytaniokdgekgdkaa
open Go.RowKit
set_option linter.unusedVariables false
set_option linter.unusedSimpArgs false

theorem Try.fcellsHF : Try.prog.cellsOf 34 = 2 := by kernel_rfl
theorem hlist_arg (v : Value) (w : World) (h : Arg Try.prog w 22 v) : ∃ l, RdF w v l ∧ ∀ p ∈ l, FldOk p :=
  h.list (f := fldC) (Q := FldOk) Try.underlying22 Try.fcellsHF (by omega) fun E hE =>
    fld_of Try.underlying34 Try.underlying9 Try.fcellsFld Try.fcellsFs ⟨_, rfl, rfl, rfl⟩ ⟨_, rfl, rfl, rfl⟩ hE
def TruePost (w : World) (e : Ending) (w' : World) : Prop := e = .returned (.bool true) ∧ Below w.heap.size w w'
theorem sameL_self {α : Type} [DecidableEq α] (l : List α) : sameL l l = true := decide_eq_true rfl
set_option maxRecDepth 100000 in
set_option maxHeartbeats 4000000 in
theorem htells_walk (v1 v2 : Value) (l m : List Fld) (nm : ByteArray) (w : World) (h1 : RdF w v1 l) (h2 : RdF w v2 m) (z1 : ∀ p ∈ l, FldOk p) (z2 : ∀ p ∈ m, FldOk p) (hn : nm.size ≤ maxLen) :
    Calls Try.prog 3 #[v1, v2, .string nm] w (TruePost w) := by
  have H1 := Kp.mk h1
  have H2 := Kp.mk h2
  have Z2 := Kp.mk z2
  have f1 := few10_any v1 l w h1 z1
  cases hfl : hFew l
  · rw [hfl] at f1
    go_enter Try.func3, Try.ntmps3
    go_wp2_with fail
    refine f1.mono ?_
    rintro e w1 ⟨rfl, hb1⟩
    have HB1 := Kp.mk hb1
    clear hb1
    go_wp2_with fail
    refine (lives10_any _).mono ?_
    rintro e w2 ⟨rfl, hb2⟩
    have HB2 := Kp.mk (HB1.out.trans (hb2.mono HB1.out.size))
    clear hb2
    go_wp2_with fail
    go_ret
    exact ⟨rfl, HB2.out⟩
  · rw [hfl] at f1
    obtain ⟨hl1, hsm1⟩ := hFew_out hfl
    have S1 := Kp.mk hsm1
    clear hsm1 z1 z2 h1 h2
    go_enter Try.func3, Try.ntmps3
    go_wp2_with fail
    refine f1.mono ?_
    rintro e w1 ⟨rfl, hb1⟩
    have HB1 := Kp.mk hb1
    clear hb1 f1
    have f2 := few10_any v2 m w1 (H2.out.below HB1.out) Z2.out
    cases hfm : hFew m
    · rw [hfm] at f2
      go_wp2_with fail
      refine f2.mono ?_
      rintro e w2 ⟨rfl, hb2⟩
      have HB2 := Kp.mk (HB1.out.trans (hb2.mono HB1.out.size))
      clear hb2 f2
      go_wp2_with fail
      refine (lives10_any _).mono ?_
      rintro e w3 ⟨rfl, hb3⟩
      have HB3 := Kp.mk (HB2.out.trans (hb3.mono HB2.out.size))
      clear hb3
      go_wp2_with fail
      go_ret
      exact ⟨rfl, HB3.out⟩
    · rw [hfm] at f2
      obtain ⟨hl2, hsm2⟩ := hFew_out hfm
      have S2 := Kp.mk hsm2
      clear hsm2
      by_cases hq : nm.size ≤ 100
      · have q1 : ¬ (100 : Int) < (nm.size : Int) := by omega
        go_wp2_with fail
        refine f2.mono ?_
        rintro e w2 ⟨rfl, hb2⟩
        have HB2 := Kp.mk (HB1.out.trans (hb2.mono HB1.out.size))
        clear hb2 f2
        go_wp2_with fail
        refine (hget_any v1 l nm _ (H1.out.below HB2.out) S1.out (by omega) (by omega)).mono ?_
        rintro e w3 ⟨rfl, hb3⟩
        have HB3 := Kp.mk (HB2.out.trans (hb3.mono HB2.out.size))
        clear hb3
        go_wp2_with fail
        refine (rhget_any v1 l nm _ (H1.out.below HB3.out) S1.out (by omega) (by omega)).mono ?_
        rintro e w4 ⟨rfl, hb4⟩
        have HB4 := Kp.mk (HB3.out.trans (hb4.mono HB3.out.size))
        clear hb4
        go_wp2_with fail
        refine (hcomb_any v1 l nm _ (H1.out.below HB4.out) S1.out (by omega) (by omega)).mono ?_
        rintro e w5 ⟨rfl, hb5⟩
        have HB5 := Kp.mk (HB4.out.trans (hb5.mono HB4.out.size))
        clear hb5
        go_wp2_with fail
        refine (rhcomb_any v1 l nm _ (H1.out.below HB5.out) S1.out (by omega) (by omega)).mono ?_
        rintro e w6 ⟨rfl, hb6⟩
        have HB6 := Kp.mk (HB5.out.trans (hb6.mono HB5.out.size))
        clear hb6
        go_wp2_with fail
        refine (rhall_any v1 l nm _ (H1.out.below HB6.out) S1.out (by omega) (by omega)).mono ?_
        rintro e w7 ⟨u7, rfl, ho7, hb7⟩
        have HB7 := Kp.mk (HB6.out.trans (hb7.mono HB6.out.size))
        have HR7 := Kp.mk (rds_own ho7)
        have hle := hAll_len l nm
        obtain ⟨a7, c7, rfl⟩ := own_lenH ho7
        clear hb7 ho7
        generalize hGet l nm = sg at *
        generalize hIs l nm = si at *
        generalize hJoin (hAll l nm) = sj at *
        go_wp2_with fail
        refine (hall_any v1 l nm _ (H1.out.below HB7.out) S1.out (by omega) (by omega)).mono ?_
        rintro e w8 ⟨u8, rfl, ho8, hb8⟩
        have HB8 := Kp.mk (HB7.out.trans (hb8.mono HB7.out.size))
        have HR8 := Kp.mk (rds_own ho8)
        have HR7b := Kp.mk (HR7.out.below hb8)
        obtain ⟨a8, c8, rfl⟩ := own_lenH ho8
        clear hb8 ho8
        go_wp2_with fail
        refine (rssame_any _ _ (hAll l nm) (hAll l nm) _ HR8.out HR7b.out (by omega) (by omega)).mono ?_
        rw [sameL_self]
        rintro e w9 ⟨rfl, hb9⟩
        have HB9 := Kp.mk (HB8.out.trans (hb9.mono HB8.out.size))
        clear hb9
        go_wp2_with fail
        refine (hcount_any v1 l nm _ (H1.out.below HB9.out) S1.out (by omega) (by omega)).mono ?_
        rintro e w10 ⟨rfl, hb10⟩
        have HB10 := Kp.mk (HB9.out.trans (hb10.mono HB9.out.size))
        clear hb10
        go_wp2_with fail
        refine (hsame_any v1 v2 l m _ (H1.out.below HB10.out) (H2.out.below HB10.out) (by omega) (by omega)).mono ?_
        rintro e w11 ⟨rfl, hb11⟩
        have HB11 := Kp.mk (HB10.out.trans (hb11.mono HB10.out.size))
        clear hb11
        go_wp2_with fail
        refine (rfsame_any v1 v2 l m _ (H1.out.below HB11.out) (H2.out.below HB11.out) (by omega) (by omega)).mono ?_
        rintro e w12 ⟨rfl, hb12⟩
        have HB12 := Kp.mk (HB11.out.trans (hb12.mono HB11.out.size))
        clear hb12
        generalize sameL l m = sl at *
        go_wp2_with fail
        refine (lives10_any _).mono ?_
        rintro e w13 ⟨rfl, hb13⟩
        have HB13 := Kp.mk (HB12.out.trans (hb13.mono HB12.out.size))
        clear hb13
        go_wp2_with fail
        go_ret
        exact ⟨rfl, HB13.out⟩
      · have q1 : (100 : Int) < (nm.size : Int) := by omega
        go_wp2_with fail
        refine f2.mono ?_
        rintro e w2 ⟨rfl, hb2⟩
        have HB2 := Kp.mk (HB1.out.trans (hb2.mono HB1.out.size))
        clear hb2 f2
        go_wp2_with fail
        refine (lives10_any _).mono ?_
        rintro e w3 ⟨rfl, hb3⟩
        have HB3 := Kp.mk (HB2.out.trans (hb3.mono HB2.out.size))
        clear hb3
        go_wp2_with fail
        go_ret
        exact ⟨rfl, HB3.out⟩
theorem htells_arg (v0 v1 v2 : Value) (w : World) (h0 : Arg Try.prog w 22 v0) (h1 : Arg Try.prog w 22 v1) (h2 : Arg Try.prog w 9 v2) :
    Calls Try.prog 3 #[v0, v1, v2] w fun e w' => e = .returned (.bool true) ∧ Below w.heap.size w w' := by
  obtain ⟨l, hv, hz⟩ := hlist_arg v0 w h0
  obtain ⟨m, hv2, hz2⟩ := hlist_arg v1 w h1
  obtain ⟨nm, rfl, hn⟩ := h2.str Try.underlying9
  exact htells_walk v0 v1 l m nm w hv hv2 hz hz2 hn
end Go.Proofs.Ytaniokdgekgdkaa
