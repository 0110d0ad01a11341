/- Codings (layer 19): the document's examples; the law CodingChunked. -/
import Derived.Test.YthlkflneldjnjaaCdd
namespace Go.Proofs.Ythlkflneldjnjaa
open Go.RowKit
set_option linter.unusedVariables false
set_option linter.unusedSimpArgs false

def exA : List Fld := [(⟨#[84, 114, 97, 110, 115, 102, 101, 114, 45, 69, 110, 99, 111, 100, 105, 110, 103]⟩, ⟨#[67, 104, 117, 110, 107, 101, 100]⟩)]
def exB : List Fld := [(⟨#[116, 114, 97, 110, 115, 102, 101, 114, 45, 101, 110, 99, 111, 100, 105, 110, 103]⟩, ⟨#[103, 122, 105, 112, 44, 32, 99, 104, 117, 110, 107, 101, 100]⟩)]
def exC : List Fld := [(⟨#[116, 114, 97, 110, 115, 102, 101, 114, 45, 101, 110, 99, 111, 100, 105, 110, 103]⟩, ⟨#[99, 104, 117, 110, 107, 101, 100, 44, 32, 103, 122, 105, 112]⟩)]
def exD : List Fld := [(⟨#[84, 69]⟩, ⟨#[97, 44, 32, 116, 114, 97, 105, 108, 101, 114, 115]⟩)]
theorem exA_few : FewF exA := ⟨by decide, by intro p hp; simp [exA] at hp; subst hp; exact ⟨by decide, by decide⟩⟩
theorem exB_few : FewF exB := ⟨by decide, by intro p hp; simp [exB] at hp; subst hp; exact ⟨by decide, by decide⟩⟩
theorem exC_few : FewF exC := ⟨by decide, by intro p hp; simp [exC] at hp; subst hp; exact ⟨by decide, by decide⟩⟩
theorem exD_few : FewF exD := ⟨by decide, by intro p hp; simp [exD] at hp; subst hp; exact ⟨by decide, by decide⟩⟩
theorem exA_ch : chF exA = (true, 0) := by decide +kernel
theorem exB_ch : chF exB = (false, 15) := by decide +kernel
theorem exC_ch : chF exC = (false, 14) := by decide +kernel
theorem exD_tr : trF exD = true := by decide +kernel
set_option maxRecDepth 100000 in
set_option maxHeartbeats 1000000 in
theorem lives19_any (w : World) : Calls Try.prog 25 #[] w fun e w' => e = .returned (.bool true) ∧ Below w.heap.size w w' := by
  have HB0 := Kp.mk ((Below.refl w.heap.size w).alloc (Nat.le_refl _) (.cells (fvH exA).toArray 42))
  have R0 := Kp.mk (rdf_own (l := exA) (World.ownsRow_lit (base := w.heap.size) (e := 42) (size := 2) w (fvH exA).toArray 1 (Nat.le_refl _) (by unfold maxLen; omega) rfl))
  have HA := Kp.mk exA_ch
  have HB := Kp.mk exB_ch
  have HC := Kp.mk exC_ch
  have HD := Kp.mk exD_tr
  go_enter Try.func25, Try.ntmps25
  go_wp2_with fail
  refine (cchunk_any _ exA _ R0.out exA_few).mono ?_
  rw [HA.out]
  rintro e w1 ⟨rfl, hb1⟩
  have HB1 := Kp.mk (HB0.out.trans (hb1.mono HB0.out.size))
  clear hb1
  have R1 := Kp.mk (rdf_own (l := exB) (World.ownsRow_lit (base := w1.heap.size) (e := 42) (size := 2) w1 (fvH exB).toArray 1 (Nat.le_refl _) (by unfold maxLen; omega) rfl))
  have HX1 := Kp.mk (HB1.out.alloc HB1.out.size (.cells (fvH exB).toArray 42))
  go_wp2_with fail
  refine (cchunk_any _ exB _ R1.out exB_few).mono ?_
  rw [HB.out]
  rintro e w2 ⟨rfl, hb2⟩
  have HB2 := Kp.mk (HX1.out.trans (hb2.mono HX1.out.size))
  clear hb2
  have R2 := Kp.mk (rdf_own (l := exC) (World.ownsRow_lit (base := w2.heap.size) (e := 42) (size := 2) w2 (fvH exC).toArray 1 (Nat.le_refl _) (by unfold maxLen; omega) rfl))
  have HX2 := Kp.mk (HB2.out.alloc HB2.out.size (.cells (fvH exC).toArray 42))
  go_wp2_with fail
  refine (cchunk_any _ exC _ R2.out exC_few).mono ?_
  rw [HC.out]
  rintro e w3 ⟨rfl, hb3⟩
  have HB3 := Kp.mk (HX2.out.trans (hb3.mono HX2.out.size))
  clear hb3
  have R3 := Kp.mk (rdf_own (l := exD) (World.ownsRow_lit (base := w3.heap.size) (e := 42) (size := 2) w3 (fvH exD).toArray 1 (Nat.le_refl _) (by unfold maxLen; omega) rfl))
  have HX3 := Kp.mk (HB3.out.alloc HB3.out.size (.cells (fvH exD).toArray 42))
  go_wp2_with fail
  refine (ctrail_any _ exD _ R3.out exD_few).mono ?_
  rw [HD.out]
  rintro e w4 ⟨rfl, hb4⟩
  have HB4 := Kp.mk (HX3.out.trans (hb4.mono HX3.out.size))
  clear hb4
  go_wp2_with fail
  go_ret
  exact ⟨rfl, HB4.out⟩
theorem er_sameC (r : Int) : (r == r) = true := by simp
theorem b_sameC (b : Bool) : (b == b) = true := by cases b <;> rfl
theorem hlist_argD (v : Value) (w : World) (h : Arg Try.prog w 22 v) : ∃ l, RdF w v l ∧ ∀ p ∈ l, FldOk p :=
  h.list (f := fldC) (Q := FldOk) Try.underlying22 Try.fcellsFld (by omega) fun E hE =>
    fld_of Try.underlying42 Try.underlying9 Try.fcellsFld Try.fcellsFs ⟨_, rfl, rfl, rfl⟩ ⟨_, rfl, rfl, rfl⟩ hE
set_option maxRecDepth 100000 in
set_option maxHeartbeats 1500000 in
theorem cdch_walk (vl : Value) (l : List Fld) (w : World) (h1 : RdF w vl l) (z1 : ∀ p ∈ l, FldOk p) :
    Calls Try.prog 6 #[vl] w fun e w' => e = .returned (.bool true) ∧ Below w.heap.size w w' := by
  have H1 := Kp.mk h1
  have f1 := few10_any vl l w h1 z1
  cases hfl : hFew l
  · rw [hfl] at f1
    clear h1 z1
    go_enter Try.func6, Try.ntmps6
    go_wp2_with fail
    refine f1.mono ?_
    rintro e w1 ⟨rfl, hb1⟩
    have HB1 := Kp.mk hb1
    clear hb1
    go_wp2_with fail
    refine (lives19_any _).mono ?_
    rintro e w9 ⟨rfl, hb9⟩
    have HB9 := Kp.mk (HB1.out.trans (hb9.mono HB1.out.size))
    clear hb9
    go_wp2_with fail
    go_ret
    exact ⟨rfl, HB9.out⟩
  · rw [hfl] at f1
    have HF := Kp.mk (fewF_of hfl)
    clear z1 h1
    have HC1 := Kp.mk (fun W (h : RdF W vl l) => cchunk_any vl l W h HF.out)
    have HC2 := Kp.mk (fun W (h : RdF W vl l) => rchunk_any vl l W h HF.out)
    have HT1 := Kp.mk (fun W (h : RdF W vl l) => ctrail_any vl l W h HF.out)
    have HT2 := Kp.mk (fun W (h : RdF W vl l) => rtrail_any vl l W h HF.out)
    generalize (chF l).1 = cb at *
    generalize (chF l).2 = ce at *
    generalize trF l = tb at *
    have h8 := b_sameC cb
    have h7 := b_sameC tb
    have h9 := er_sameC ce
    go_enter Try.func6, Try.ntmps6
    go_wp2_with fail
    refine f1.mono ?_
    rintro e w1 ⟨rfl, hb1⟩
    have HB1 := Kp.mk hb1
    clear hb1 f1
    go_wp2_with fail
    refine (HC1.out _ (H1.out.below HB1.out)).mono ?_
    rintro e w2 ⟨rfl, hb2⟩
    have HB2 := Kp.mk (HB1.out.trans (hb2.mono HB1.out.size))
    clear hb2
    go_wp2_with fail
    refine (HC2.out _ (H1.out.below HB2.out)).mono ?_
    rintro e w3 ⟨rfl, hb3⟩
    have HB3 := Kp.mk (HB2.out.trans (hb3.mono HB2.out.size))
    clear hb3
    go_wp2_with fail
    refine (HT1.out _ (H1.out.below HB3.out)).mono ?_
    rintro e w4 ⟨rfl, hb4⟩
    have HB4 := Kp.mk (HB3.out.trans (hb4.mono HB3.out.size))
    clear hb4
    go_wp2_with fail
    refine (HT2.out _ (H1.out.below HB4.out)).mono ?_
    rintro e w5 ⟨rfl, hb5⟩
    have HB5 := Kp.mk (HB4.out.trans (hb5.mono HB4.out.size))
    clear hb5
    go_wp2_with fail
    refine (lives19_any _).mono ?_
    rintro e w9 ⟨rfl, hb9⟩
    have HB9 := Kp.mk (HB5.out.trans (hb9.mono HB5.out.size))
    clear hb9
    go_wp2_with fail
    go_ret
    exact ⟨rfl, HB9.out⟩
theorem cdch_arg (v0 : Value) (w : World) (h0 : Arg Try.prog w 22 v0) :
    Calls Try.prog 6 #[v0] w fun e w' => e = .returned (.bool true) ∧ Below w.heap.size w w' := by
  obtain ⟨l, hv, hz⟩ := hlist_argD v0 w h0
  exact cdch_walk v0 l w hv hz
end Go.Proofs.Ythlkflneldjnjaa
