/- Fields of one connection (layer 29): what goes on, on both sides; the law HopStrips. -/
import Derived.Test.YthlkflneldjnjaaHpb
import Derived.Test.YthlkflneldjnjaaHdb
import Derived.Test.YthlkflneldjnjaaFew
namespace Go.Proofs.Ythlkflneldjnjaa
open Go.RowKit
set_option linter.unusedVariables false
set_option linter.unusedSimpArgs false

def hopS (l : List Fld) : List Fld := hWo l (hopN (conV l))
theorem hopN_len (v : ByteArray) : (hopN v).length ≤ 7 + (conW v).length := by rw [hopN_eq]; exact hopT_len _ _
theorem hopN_sz {v : ByteArray} (hv : v.size ≤ 50100) : ∀ n ∈ hopN v, n.size ≤ 100000 := by
  intro n hn
  unfold hopN at hn
  rw [List.mem_append] at hn
  rcases hn with hn | hn
  · exact hopOwn_sz n hn
  · have := conW_mem (List.mem_filter.1 hn).1
    omega
theorem strip_any (vl : Value) (l : List Fld) (w : World) (hv : RdF w vl l) (hF : FewF l) : Calls Try.prog 34 #[vl] w (RetF (hopS l) w) := by
  have hvz : (conV l).size ≤ 50100 := hF.comb nmCon
  have hwl := conW_len (conV l)
  have hnl := hopN_len (conV l)
  have HNS := Kp.mk (hopN_sz hvz)
  have HS := Kp.mk hF.sm
  have hl5 := hF.len
  have HD := Kp.mk (show hopS l = hWo l (hopN (conV l)) from rfl)
  have HF := Kp.mk hF
  have HV := Kp.mk hv
  clear hF hv
  go_enter Try.func34, Try.ntmps34
  go_wp2_with fail
  refine (names_any vl l _ HV.out HF.out).mono ?_
  rintro e w1 ⟨u, rfl, ho, hb1⟩
  have HB1 := Kp.mk hb1
  have HR := Kp.mk (rds_own ho)
  obtain ⟨a, c, rfl⟩ := own_lenH ho
  clear ho hb1
  generalize hopN (conV l) = N at *
  go_wp2_with fail
  refine (hwo_any vl _ l N _ (HV.out.below HB1.out) HR.out HS.out HNS.out (by omega) (by omega)).mono ?_
  rintro e w2 ⟨u2, rfl, ho2, hb2⟩
  have HO2 := Kp.mk (own_low ho2 HB1.out.size)
  have HB2 := Kp.mk (HB1.out.trans (hb2.mono HB1.out.size))
  obtain ⟨a2, c2, rfl⟩ := own_lenH ho2
  clear ho2 hb2
  go_wp2_with fail
  go_ret
  exact ⟨_, rfl, by rw [HD.out]; exact HO2.out, HB2.out⟩
theorem rstrip_any (vl : Value) (l : List Fld) (w : World) (hv : RdF w vl l) (hF : FewF l) : Calls Try.prog 35 #[vl] w (RetF (hopS l) w) := by
  have hvz : (conV l).size ≤ 50100 := hF.comb nmCon
  have hwl := conW_len (conV l)
  have hnl := hopN_len (conV l)
  have HNS := Kp.mk (hopN_sz hvz)
  have HS := Kp.mk hF.sm
  have hl5 := hF.len
  have HD := Kp.mk (show hopS l = hWo l (hopN (conV l)) from rfl)
  have HF := Kp.mk hF
  have HV := Kp.mk hv
  clear hF hv
  go_enter Try.func35, Try.ntmps35
  go_wp2_with fail
  refine (rnames_any vl l _ HV.out HF.out).mono ?_
  rintro e w1 ⟨u, rfl, ho, hb1⟩
  have HB1 := Kp.mk hb1
  have HR := Kp.mk (rds_own ho)
  obtain ⟨a, c, rfl⟩ := own_lenH ho
  clear ho hb1
  generalize hopN (conV l) = N at *
  go_wp2_with fail
  refine (rhwo_any vl _ l N _ (HV.out.below HB1.out) HR.out HS.out HNS.out (by omega) (by omega)).mono ?_
  rintro e w2 ⟨u2, rfl, ho2, hb2⟩
  have HO2 := Kp.mk (own_low ho2 HB1.out.size)
  have HB2 := Kp.mk (HB1.out.trans (hb2.mono HB1.out.size))
  obtain ⟨a2, c2, rfl⟩ := own_lenH ho2
  clear ho2 hb2
  go_wp2_with fail
  go_ret
  exact ⟨_, rfl, by rw [HD.out]; exact HO2.out, HB2.out⟩
def exH : List Fld := [(⟨#[67, 111, 110, 110, 101, 99, 116, 105, 111, 110]⟩, ⟨#[99, 108, 111, 115, 101, 44, 32, 88, 45, 65]⟩), (⟨#[120, 45, 97]⟩, ⟨#[49]⟩), (⟨#[88, 45, 66]⟩, ⟨#[50]⟩)]
theorem exH_few : FewF exH := ⟨by decide, by intro p hp; simp [exH] at hp; rcases hp with rfl | rfl | rfl <;> exact ⟨by decide, by decide⟩⟩
theorem exH_s : hopS exH = [(⟨#[88, 45, 66]⟩, ⟨#[50]⟩)] := by decide +kernel
set_option maxRecDepth 100000 in
set_option maxHeartbeats 1000000 in
theorem lives29_any (w : World) : Calls Try.prog 30 #[] w fun e w' => e = .returned (.bool true) ∧ Below w.heap.size w w' := by
  have HB0 := Kp.mk ((Below.refl w.heap.size w).alloc (Nat.le_refl _) (.cells (fvH exH).toArray 42))
  have R3 := Kp.mk (rdf_own (l := exH) (World.ownsRow_lit (base := w.heap.size) (e := 42) (size := 2) w (fvH exH).toArray 3 (Nat.le_refl _) (by unfold maxLen; omega) rfl))
  have HS := Kp.mk exH_s
  go_enter Try.func30, Try.ntmps30
  go_wp2_with fail
  refine (strip_any _ exH _ R3.out exH_few).mono ?_
  rw [HS.out]
  rintro e w1 ⟨u, rfl, ho, hb1⟩
  have HB1 := Kp.mk (HB0.out.trans (hb1.mono HB0.out.size))
  have hr := rdf_own ho
  obtain ⟨a, c, rfl⟩ := own_lenH ho
  obtain ⟨g, o, rfl, hg, d0⟩ := rdf_cells hr (by decide)
  obtain ⟨c1, c2⟩ := d0 0 (by decide)
  simp only [Nat.zero_mul, Nat.add_zero, List.getElem_cons_zero] at c1 c2
  clear hb1 ho hr d0
  go_wp2_with fail
  go_ret
  exact ⟨rfl, HB1.out⟩
theorem sameL_h {α : Type} [DecidableEq α] (l : List α) : sameL l l = true := decide_eq_true rfl
set_option maxRecDepth 100000 in
set_option maxHeartbeats 1500000 in
theorem hstrips_walk (vl : Value) (l : List Fld) (w : World) (h1 : RdF w vl l) (z1 : ∀ p ∈ l, FldOk p) :
    Calls Try.prog 8 #[vl] w fun e w' => e = .returned (.bool true) ∧ Below w.heap.size w w' := by
  have H1 := Kp.mk h1
  have f1 := few10_any vl l w h1 z1
  cases hfl : hFew l
  · rw [hfl] at f1
    clear h1 z1
    go_enter Try.func8, Try.ntmps8
    go_wp2_with fail
    refine f1.mono ?_
    rintro e w1 ⟨rfl, hb1⟩
    have HB1 := Kp.mk hb1
    clear hb1
    go_wp2_with fail
    refine (lives29_any _).mono ?_
    rintro e w9 ⟨rfl, hb9⟩
    have HB9 := Kp.mk (HB1.out.trans (hb9.mono HB1.out.size))
    clear hb9
    go_wp2_with fail
    go_ret
    exact ⟨rfl, HB9.out⟩
  · rw [hfl] at f1
    have HF := Kp.mk (fewF_of hfl)
    have hvz : (conV l).size ≤ 50100 := HF.out.comb nmCon
    have hwl := conW_len (conV l)
    have hnl := hopN_len (conV l)
    have hsl : (hopS l).length ≤ l.length := hWo_len _ _
    have hl5 := HF.out.len
    clear z1 h1
    go_enter Try.func8, Try.ntmps8
    go_wp2_with fail
    refine f1.mono ?_
    rintro e w1 ⟨rfl, hb1⟩
    have HB1 := Kp.mk hb1
    clear hb1 f1
    go_wp2_with fail
    refine (names_any vl l _ (H1.out.below HB1.out) HF.out).mono ?_
    rintro e w2 ⟨u, rfl, ho, hb2⟩
    have HB2 := Kp.mk (HB1.out.trans (hb2.mono HB1.out.size))
    have RA := Kp.mk (rds_own ho)
    obtain ⟨a, c, rfl⟩ := own_lenH ho
    clear ho hb2
    go_wp2_with fail
    refine (rnames_any vl l _ (H1.out.below HB2.out) HF.out).mono ?_
    rintro e w3 ⟨u, rfl, ho, hb3⟩
    have HB3 := Kp.mk (HB2.out.trans (hb3.mono HB2.out.size))
    have RA3 := Kp.mk (RA.out.below hb3)
    have RB := Kp.mk (rds_own ho)
    obtain ⟨a2, c2, rfl⟩ := own_lenH ho
    clear ho hb3
    go_wp2_with fail
    refine (rssame_any _ _ (hopN (conV l)) (hopN (conV l)) _ RA3.out RB.out (by omega) (by omega)).mono ?_
    rw [sameL_h]
    rintro e w4 ⟨rfl, hb4⟩
    have HB4 := Kp.mk (HB3.out.trans (hb4.mono HB3.out.size))
    clear hb4
    go_wp2_with fail
    refine (strip_any vl l _ (H1.out.below HB4.out) HF.out).mono ?_
    rintro e w5 ⟨u, rfl, ho, hb5⟩
    have HB5 := Kp.mk (HB4.out.trans (hb5.mono HB4.out.size))
    have RC := Kp.mk (rdf_own ho)
    obtain ⟨a3, c3, rfl⟩ := own_lenH ho
    clear ho hb5
    go_wp2_with fail
    refine (rstrip_any vl l _ (H1.out.below HB5.out) HF.out).mono ?_
    rintro e w6 ⟨u, rfl, ho, hb6⟩
    have HB6 := Kp.mk (HB5.out.trans (hb6.mono HB5.out.size))
    have RC6 := Kp.mk (RC.out.below hb6)
    have RD := Kp.mk (rdf_own ho)
    obtain ⟨a4, c4, rfl⟩ := own_lenH ho
    clear ho hb6
    go_wp2_with fail
    refine (rfsame_any _ _ (hopS l) (hopS l) _ RC6.out RD.out (by omega) (by omega)).mono ?_
    rw [sameL_h]
    rintro e w7 ⟨rfl, hb7⟩
    have HB7 := Kp.mk (HB6.out.trans (hb7.mono HB6.out.size))
    clear hb7
    go_wp2_with fail
    refine (lives29_any _).mono ?_
    rintro e w9 ⟨rfl, hb9⟩
    have HB9 := Kp.mk (HB7.out.trans (hb9.mono HB7.out.size))
    clear hb9
    go_wp2_with fail
    go_ret
    exact ⟨rfl, HB9.out⟩
theorem hlist_argH (v : Value) (w : World) (h : Arg Try.prog w 22 v) : ∃ l, RdF w v l ∧ ∀ p ∈ l, FldOk p :=
  h.list (f := fldC) (Q := FldOk) Try.underlying22 Try.fcellsFld (by omega) fun E hE =>
    fld_of Try.underlying42 Try.underlying9 Try.fcellsFld Try.fcellsFs ⟨_, rfl, rfl, rfl⟩ ⟨_, rfl, rfl, rfl⟩ hE
theorem hstrips_arg (v0 : Value) (w : World) (h0 : Arg Try.prog w 22 v0) :
    Calls Try.prog 8 #[v0] w fun e w' => e = .returned (.bool true) ∧ Below w.heap.size w w' := by
  obtain ⟨l, hv, hz⟩ := hlist_argH v0 w h0
  exact hstrips_walk v0 l w hv hz
end Go.Proofs.Ythlkflneldjnjaa
