/- Trailers (layer 26): the statements' guard; the document's example; the law TrailerKeeps. -/
import Derived.Test.YtpgeheblmpjndaaTre
namespace Go.Proofs.Ytpgeheblmpjndaa
open Go.RowKit
set_option linter.unusedVariables false
set_option linter.unusedSimpArgs false

def fldFew (p : Fld) : Bool := decide (p.1.size ≤ 100) && decide (p.2.size ≤ 300)
def hFew (l : List Fld) : Bool := decide (l.length ≤ 40) && l.all fldFew
theorem hFew_big {l : List Fld} (h : ¬ l.length ≤ 40) : hFew l = false := by unfold hFew; rw [decide_eq_false h]; rfl
theorem hFew_bad {l : List Fld} {k : Nat} (h : k < l.length) (hf : fldFew l[k] = false) : hFew l = false := by
  unfold hFew
  rw [Bool.and_eq_false_iff]
  exact .inr (List.all_eq_false.2 ⟨l[k], List.getElem_mem h, by simp [hf]⟩)
theorem hFew_all {l : List Fld} (h0 : l.length ≤ 40) (h : ∀ j (hj : j < l.length), fldFew l[j] = true) : hFew l = true := by
  unfold hFew
  rw [decide_eq_true h0, Bool.true_and]
  exact List.all_eq_true.2 fun p hp => by
    obtain ⟨j, hj, rfl⟩ := List.getElem_of_mem hp
    exact h j hj
theorem hFew_out {l : List Fld} (h : hFew l = true) : l.length ≤ 40 ∧ ∀ p ∈ l, FldSm p := by
  unfold hFew at h
  rw [Bool.and_eq_true] at h
  refine ⟨of_decide_eq_true h.1, fun p hp => ?_⟩
  have := List.all_eq_true.1 h.2 p hp
  unfold fldFew at this
  rw [Bool.and_eq_true] at this
  have h1 := of_decide_eq_true this.1
  have h2 := of_decide_eq_true this.2
  exact ⟨by omega, by omega⟩
set_option maxRecDepth 100000 in
set_option maxHeartbeats 2000000 in
theorem few10_any (v : Value) (l : List Fld) (w : World) (hv : RdF w v l) (hz : ∀ p ∈ l, FldOk p) :
    Calls Try.prog 25 #[v] w fun e w' => e = .returned (.bool (hFew l)) ∧ Below w.heap.size w w' := by
  have HV := Kp.mk hv
  have HZ := Kp.mk hz
  obtain ⟨a, cap, rfl, hc1, hc2, -⟩ := hv
  clear hz
  go_enter Try.func25, Try.ntmps25
  by_cases h0 : l.length ≤ 40
  · have q9 : ¬ (40 : Int) < (l.length : Int) := by omega
    go_wp2_with fail
    go_loopw [10] (fun i wr => ∃ k : Nat, k ≤ l.length ∧ i = .int .i64 k ∧ (∀ j (hj : j < l.length), j < k → fldFew l[j] = true) ∧ Below w.heap.size w wr) (fun i _ => l.length - (intOf i).toNat)
    case atStart => exact ⟨0, by omega, rfl, fun j _ h => by omega, Below.refl _ _⟩
    case round =>
      obtain ⟨k, hk, rfl, hh, hb⟩ := hrel
      have HB := Kp.mk hb
      have HH := Kp.mk hh
      have hsz := hb.size
      clear hh hb
      by_cases hlt : k < l.length
      · obtain ⟨g, o, rfl, hgl, d0⟩ := rdf_cells (HV.out.below HB.out) (by omega)
        obtain ⟨c1, c2⟩ := d0 k hlt
        obtain ⟨m1, m2⟩ := HZ.out l[k] (List.getElem_mem hlt)
        have q0 : (0 : Int) ≤ (k : Int) := by omega
        have q1 : (k : Int) < (l.length : Int) := by omega
        have HBad := Kp.mk (hFew_bad (l := l) hlt)
        have HF := Kp.mk (show fldFew l[k] = (decide (l[k].1.size ≤ 100) && decide (l[k].2.size ≤ 300)) from rfl)
        clear d0
        generalize hp : l[k] = p at *
        have HP := Kp.mk hp
        clear hp
        obtain ⟨x, y⟩ := p
        simp only at c1 c2 m1 m2
        have HB2 := Kp.mk (HB.out.alloc hsz (.cells #[.string x, .string y] 43))
        by_cases hx : x.size ≤ 100
        · have q2 : ¬ (100 : Int) < (x.size : Int) := by omega
          by_cases hy : y.size ≤ 300
          · have q3 : ¬ (300 : Int) < (y.size : Int) := by omega
            have HT := Kp.mk (show fldFew (x, y) = true by rw [HF.out, decide_eq_true hx, decide_eq_true hy]; rfl)
            clear hx hy
            go_wp2_with fail
            go_roundw
            case rel =>
              refine ⟨k + 1, by omega, by go_num, fun j hj h => ?_, HB2.out⟩
              by_cases hjk : j = k
              · subst hjk
                rw [HP.out]
                exact HT.out
              · exact HH.out j hj (by omega)
            case measure => simp [intOf]; omega
          · have q3 : (300 : Int) < (y.size : Int) := by omega
            have HT := Kp.mk (HBad.out (by rw [HF.out, decide_eq_false hy, Bool.and_false]))
            clear hx hy
            go_wp2_with fail
            go_ret
            exact ⟨by rw [HT.out]; rfl, HB2.out⟩
        · have q2 : (100 : Int) < (x.size : Int) := by omega
          have HT := Kp.mk (HBad.out (by rw [HF.out, decide_eq_false hx, Bool.false_and]))
          clear hx
          go_wp2_with fail
          go_ret
          exact ⟨by rw [HT.out]; rfl, HB2.out⟩
      · have HK := Kp.mk (hFew_all h0 fun j hj => HH.out j hj (by omega))
        go_wp2_with fail
        go_ret
        exact ⟨by rw [HK.out]; rfl, HB.out⟩
  · have q9 : (40 : Int) < (l.length : Int) := by omega
    have HK := Kp.mk (hFew_big h0)
    go_wp2_with fail
    go_ret
    exact ⟨by rw [HK.out]; rfl, Below.refl _ _⟩
set_option maxRecDepth 100000 in
set_option maxHeartbeats 1000000 in
theorem lives26_any (w : World) : Calls Try.prog 26 #[] w fun e w' => e = .returned (.bool true) ∧ Below w.heap.size w w' := by
  have HKE := Kp.mk (show keepL [(⟨#[88, 45, 83, 117, 109]⟩, ⟨#[49]⟩), (⟨#[99, 111, 110, 116, 101, 110, 116, 45, 108, 101, 110, 103, 116, 104]⟩, ⟨#[49]⟩)] = [(⟨#[88, 45, 83, 117, 109]⟩, ⟨#[49]⟩)] by decide +kernel)
  have HTE := Kp.mk (show alwB ⟨#[116, 101]⟩ = false by decide +kernel)
  have HB0 := Kp.mk ((Below.refl w.heap.size w).alloc (Nat.le_refl _) (.cells #[.string ⟨#[88, 45, 83, 117, 109]⟩, .string ⟨#[49]⟩, .string ⟨#[99, 111, 110, 116, 101, 110, 116, 45, 108, 101, 110, 103, 116, 104]⟩, .string ⟨#[49]⟩] 43))
  have R3 := Kp.mk (rdf_own (l := [(⟨#[88, 45, 83, 117, 109]⟩, ⟨#[49]⟩), (⟨#[99, 111, 110, 116, 101, 110, 116, 45, 108, 101, 110, 103, 116, 104]⟩, ⟨#[49]⟩)]) (World.ownsRow_lit (base := w.heap.size) (e := 43) (size := 2) w #[.string ⟨#[88, 45, 83, 117, 109]⟩, .string ⟨#[49]⟩, .string ⟨#[99, 111, 110, 116, 101, 110, 116, 45, 108, 101, 110, 103, 116, 104]⟩, .string ⟨#[49]⟩] 2 (Nat.le_refl _) (by unfold maxLen; omega) rfl))
  have HSM := Kp.mk (show ∀ p ∈ [((⟨#[88, 45, 83, 117, 109]⟩ : ByteArray), (⟨#[49]⟩ : ByteArray)), (⟨#[99, 111, 110, 116, 101, 110, 116, 45, 108, 101, 110, 103, 116, 104]⟩, ⟨#[49]⟩)], FldSm p by intro p hp; simp at hp; rcases hp with rfl | rfl <;> exact ⟨by decide, by decide⟩)
  go_enter Try.func26, Try.ntmps26
  go_wp2_with fail
  refine (keep_any _ _ _ R3.out HSM.out (by decide)).mono ?_
  rintro e w1 ⟨v1, rfl, ho1, hb1⟩
  rw [HKE.out] at ho1
  have HB1 := Kp.mk (HB0.out.trans (hb1.mono HB0.out.size))
  have hr := rdf_own ho1
  obtain ⟨a, c, rfl⟩ := own_lenH ho1
  obtain ⟨g, o, rfl, hg, d0⟩ := rdf_cells hr (by decide)
  obtain ⟨c1, c2⟩ := d0 0 (by decide)
  simp only [Nat.zero_mul, Nat.add_zero, List.getElem_cons_zero] at c1 c2
  clear hb1 ho1 hr d0
  go_wp2_with fail
  refine (allowed_any _ _ (by decide)).mono ?_
  rintro e w2 ⟨rfl, hb2⟩
  rw [HTE.out]
  have HB2 := Kp.mk (HB1.out.trans (hb2.mono HB1.out.size))
  clear hb2
  go_wp2_with fail
  go_ret
  exact ⟨rfl, HB2.out⟩
theorem sameL_i {α : Type} [DecidableEq α] (l : List α) : sameL l l = true := decide_eq_true rfl
theorem mrgL_len (l ts : List Fld) : (mrgL l ts).length ≤ l.length + ts.length := by
  unfold mrgL
  rw [List.length_append]
  have h1 := List.length_filter_le (fun p : Fld => noneB l p.1) (keepL ts)
  have h2 := keepL_len ts
  omega
set_option maxRecDepth 100000 in
set_option maxHeartbeats 1500000 in
theorem tkeeps_walk (v1 v2 : Value) (l m : List Fld) (nm : ByteArray) (w : World) (h1 : RdF w v1 l) (h2 : RdF w v2 m) (z1 : ∀ p ∈ l, FldOk p) (z2 : ∀ p ∈ m, FldOk p) (hn : nm.size ≤ maxLen) :
    Calls Try.prog 7 #[v1, v2, .string nm] w fun e w' => e = .returned (.bool true) ∧ Below w.heap.size w w' := by
  have H1 := Kp.mk h1
  have H2 := Kp.mk h2
  have Z2 := Kp.mk z2
  have f1 := few10_any v1 l w h1 z1
  cases hfl : hFew l
  · rw [hfl] at f1
    clear h1 h2 z1 z2
    go_enter Try.func7, Try.ntmps7
    go_wp2_with fail
    refine f1.mono ?_
    rintro e w1 ⟨rfl, hb1⟩
    have HB1 := Kp.mk hb1
    clear hb1
    go_wp2_with fail
    refine (lives26_any _).mono ?_
    rintro e w9 ⟨rfl, hb9⟩
    have HB9 := Kp.mk (HB1.out.trans (hb9.mono HB1.out.size))
    clear hb9
    go_wp2_with fail
    go_ret
    exact ⟨rfl, HB9.out⟩
  · rw [hfl] at f1
    obtain ⟨hl1, hsm1⟩ := hFew_out hfl
    have S1 := Kp.mk hsm1
    clear hsm1 z1 z2 h1 h2
    go_enter Try.func7, Try.ntmps7
    go_wp2_with fail
    refine f1.mono ?_
    rintro e w1 ⟨rfl, hb1⟩
    have HB1 := Kp.mk hb1
    clear hb1 f1
    have f2 := few10_any v2 m w1 (H2.out.below HB1.out) Z2.out
    cases hfm : hFew m
    · rw [hfm] at f2
      go_wp2_with fail
      refine f2.mono ?_
      rintro e w2 ⟨rfl, hb2⟩
      have HB2 := Kp.mk (HB1.out.trans (hb2.mono HB1.out.size))
      clear hb2 f2
      go_wp2_with fail
      refine (lives26_any _).mono ?_
      rintro e w9 ⟨rfl, hb9⟩
      have HB9 := Kp.mk (HB2.out.trans (hb9.mono HB2.out.size))
      clear hb9
      go_wp2_with fail
      go_ret
      exact ⟨rfl, HB9.out⟩
    · rw [hfm] at f2
      obtain ⟨hl2, hsm2⟩ := hFew_out hfm
      have S2 := Kp.mk hsm2
      clear hsm2
      by_cases hq : nm.size ≤ 100
      · have q1 : ¬ (100 : Int) < (nm.size : Int) := by omega
        have g1 := keepL_len l
        have g2 := mrgL_len l m
        go_wp2_with fail
        refine f2.mono ?_
        rintro e w2 ⟨rfl, hb2⟩
        have HB2 := Kp.mk (HB1.out.trans (hb2.mono HB1.out.size))
        clear hb2 f2
        go_wp2_with fail
        refine (allowed_any nm _ (by omega)).mono ?_
        rintro e w3 ⟨rfl, hb3⟩
        have HB3 := Kp.mk (HB2.out.trans (hb3.mono HB2.out.size))
        clear hb3
        go_wp2_with fail
        refine (rallowed_any nm _ (by omega)).mono ?_
        rintro e w4 ⟨rfl, hb4⟩
        have HB4 := Kp.mk (HB3.out.trans (hb4.mono HB3.out.size))
        clear hb4
        generalize alwB nm = ab at *
        go_wp2_with fail
        refine (keep_any v1 l _ (H1.out.below HB4.out) S1.out (by omega)).mono ?_
        rintro e u4 ⟨x4, rfl, ho4, hb4⟩
        have HB5 := Kp.mk (HB4.out.trans (hb4.mono HB4.out.size))
        have RA4 := Kp.mk (rdf_own ho4)
        obtain ⟨a4, c4, rfl⟩ := own_lenH ho4
        clear hb4 ho4
        go_wp2_with fail
        refine (rkeep_any v1 l _ (H1.out.below HB5.out) S1.out (by omega)).mono ?_
        rintro e t4 ⟨y4, rfl, hp4, hd4⟩
        have HB6 := Kp.mk (HB5.out.trans (hd4.mono HB5.out.size))
        have RB4 := Kp.mk (rdf_own hp4)
        have RC4 := Kp.mk (RA4.out.below hd4)
        obtain ⟨b4, d4, rfl⟩ := own_lenH hp4
        clear hd4 hp4
        go_wp2_with fail
        refine (rfsame_any _ _ (keepL l) (keepL l) _ RC4.out RB4.out (by omega) (by omega)).mono ?_
        rw [sameL_i]
        rintro e s4 ⟨rfl, he4⟩
        have HB7 := Kp.mk (HB6.out.trans (he4.mono HB6.out.size))
        clear he4
        go_wp2_with fail
        refine (merge_any v1 v2 l m _ (H1.out.below HB7.out) (H2.out.below HB7.out) S1.out S2.out (by omega) (by omega)).mono ?_
        rintro e u7 ⟨x7, rfl, ho7, hb7⟩
        have HB8 := Kp.mk (HB7.out.trans (hb7.mono HB7.out.size))
        have RA7 := Kp.mk (rdf_own ho7)
        obtain ⟨a7, c7, rfl⟩ := own_lenH ho7
        clear hb7 ho7
        go_wp2_with fail
        refine (rmerge_any v1 v2 l m _ (H1.out.below HB8.out) (H2.out.below HB8.out) S1.out S2.out (by omega) (by omega)).mono ?_
        rintro e t7 ⟨y7, rfl, hp7, hd7⟩
        have HB9 := Kp.mk (HB8.out.trans (hd7.mono HB8.out.size))
        have RB7 := Kp.mk (rdf_own hp7)
        have RC7 := Kp.mk (RA7.out.below hd7)
        obtain ⟨b7, d7, rfl⟩ := own_lenH hp7
        clear hd7 hp7
        go_wp2_with fail
        refine (rfsame_any _ _ (mrgL l m) (mrgL l m) _ RC7.out RB7.out (by omega) (by omega)).mono ?_
        rw [sameL_i]
        rintro e s7 ⟨rfl, he7⟩
        have HB10 := Kp.mk (HB9.out.trans (he7.mono HB9.out.size))
        clear he7
        go_wp2_with fail
        refine (lives26_any _).mono ?_
        rintro e w9 ⟨rfl, hb9⟩
        have HB9 := Kp.mk (HB10.out.trans (hb9.mono HB10.out.size))
        clear hb9
        go_wp2_with fail
        go_ret
        exact ⟨rfl, HB9.out⟩
      · have q1 : (100 : Int) < (nm.size : Int) := by omega
        go_wp2_with fail
        refine f2.mono ?_
        rintro e w2 ⟨rfl, hb2⟩
        have HB2 := Kp.mk (HB1.out.trans (hb2.mono HB1.out.size))
        clear hb2 f2
        go_wp2_with fail
        refine (lives26_any _).mono ?_
        rintro e w9 ⟨rfl, hb9⟩
        have HB9 := Kp.mk (HB2.out.trans (hb9.mono HB2.out.size))
        clear hb9
        go_wp2_with fail
        go_ret
        exact ⟨rfl, HB9.out⟩
theorem hlist_argT (v : Value) (w : World) (h : Arg Try.prog w 22 v) : ∃ l, RdF w v l ∧ ∀ p ∈ l, FldOk p :=
  h.list (f := fldC) (Q := FldOk) Try.underlying22 Try.fcellsFld (by omega) fun E hE =>
    fld_of Try.underlying43 Try.underlying9 Try.fcellsFld Try.fcellsFs ⟨_, rfl, rfl, rfl⟩ ⟨_, rfl, rfl, rfl⟩ hE
theorem tkeeps_arg (v0 v1 v2 : Value) (w : World) (h0 : Arg Try.prog w 22 v0) (h1 : Arg Try.prog w 22 v1) (h2 : Arg Try.prog w 9 v2) :
    Calls Try.prog 7 #[v0, v1, v2] w fun e w' => e = .returned (.bool true) ∧ Below w.heap.size w w' := by
  obtain ⟨l, hv, hz⟩ := hlist_argT v0 w h0
  obtain ⟨m, hv2, hz2⟩ := hlist_argT v1 w h1
  obtain ⟨nm, rfl, hn⟩ := h2.str Try.underlying9
  exact tkeeps_walk v0 v1 l m nm w hv hv2 hz hz2 hn
end Go.Proofs.Ytpgeheblmpjndaa
