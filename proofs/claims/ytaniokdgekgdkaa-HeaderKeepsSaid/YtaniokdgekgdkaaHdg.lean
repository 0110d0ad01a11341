/- The statements' guard; one field more behind none; the document's example (layer 10). -/
import Derived.Test.YtaniokdgekgdkaaHdf
import Derived.Test.YtaniokdgekgdkaaHdb
import Derived.Test.YtaniokdgekgdkaaCpt
namespace Go.Proofs.Ytaniokdgekgdkaa
open Go.RowKit
set_option linter.unusedVariables false
set_option linter.unusedSimpArgs false

def fldFew (p : Fld) : Bool := decide (p.1.size ≤ 100) && decide (p.2.size ≤ 300)
def hFew (l : List Fld) : Bool := decide (l.length ≤ 40) && l.all fldFew
theorem hFew_big {l : List Fld} (h : ¬ l.length ≤ 40) : hFew l = false := by unfold hFew; rw [decide_eq_false h]; rfl
theorem hFew_bad {l : List Fld} {k : Nat} (h : k < l.length) (hf : fldFew l[k] = false) : hFew l = false := by
  unfold hFew
  rw [Bool.and_eq_false_iff]
  exact .inr (List.all_eq_false.2 ⟨l[k], List.getElem_mem h, by simp [hf]⟩)
theorem hFew_all {l : List Fld} (h0 : l.length ≤ 40) (h : ∀ j (hj : j < l.length), fldFew l[j] = true) : hFew l = true := by
  unfold hFew
  rw [decide_eq_true h0, Bool.true_and]
  exact List.all_eq_true.2 fun p hp => by
    obtain ⟨j, hj, rfl⟩ := List.getElem_of_mem hp
    exact h j hj
theorem hFew_out {l : List Fld} (h : hFew l = true) : l.length ≤ 40 ∧ ∀ p ∈ l, FldSm p := by
  unfold hFew at h
  rw [Bool.and_eq_true] at h
  refine ⟨of_decide_eq_true h.1, fun p hp => ?_⟩
  have := List.all_eq_true.1 h.2 p hp
  unfold fldFew at this
  rw [Bool.and_eq_true] at this
  have h1 := of_decide_eq_true this.1
  have h2 := of_decide_eq_true this.2
  exact ⟨by omega, by omega⟩
set_option maxRecDepth 100000 in
set_option maxHeartbeats 2000000 in
theorem few10_any (v : Value) (l : List Fld) (w : World) (hv : RdF w v l) (hz : ∀ p ∈ l, FldOk p) :
    Calls Try.prog 10 #[v] w fun e w' => e = .returned (.bool (hFew l)) ∧ Below w.heap.size w w' := by
  have HV := Kp.mk hv
  have HZ := Kp.mk hz
  obtain ⟨a, cap, rfl, hc1, hc2, -⟩ := hv
  clear hz
  go_enter Try.func10, Try.ntmps10
  by_cases h0 : l.length ≤ 40
  · have q9 : ¬ (40 : Int) < (l.length : Int) := by omega
    go_wp2_with fail
    go_loopw [10] (fun i wr => ∃ k : Nat, k ≤ l.length ∧ i = .int .i64 k ∧ (∀ j (hj : j < l.length), j < k → fldFew l[j] = true) ∧ Below w.heap.size w wr) (fun i _ => l.length - (intOf i).toNat)
    case atStart => exact ⟨0, by omega, rfl, fun j _ h => by omega, Below.refl _ _⟩
    case round =>
      obtain ⟨k, hk, rfl, hh, hb⟩ := hrel
      have HB := Kp.mk hb
      have HH := Kp.mk hh
      have hsz := hb.size
      clear hh hb
      by_cases hlt : k < l.length
      · obtain ⟨g, o, rfl, hgl, d0⟩ := rdf_cells (HV.out.below HB.out) (by omega)
        obtain ⟨c1, c2⟩ := d0 k hlt
        obtain ⟨m1, m2⟩ := HZ.out l[k] (List.getElem_mem hlt)
        have q0 : (0 : Int) ≤ (k : Int) := by omega
        have q1 : (k : Int) < (l.length : Int) := by omega
        have HBad := Kp.mk (hFew_bad (l := l) hlt)
        have HF := Kp.mk (show fldFew l[k] = (decide (l[k].1.size ≤ 100) && decide (l[k].2.size ≤ 300)) from rfl)
        clear d0
        generalize hp : l[k] = p at *
        have HP := Kp.mk hp
        clear hp
        obtain ⟨x, y⟩ := p
        simp only at c1 c2 m1 m2
        have HB2 := Kp.mk (HB.out.alloc hsz (.cells #[.string x, .string y] 34))
        by_cases hx : x.size ≤ 100
        · have q2 : ¬ (100 : Int) < (x.size : Int) := by omega
          by_cases hy : y.size ≤ 300
          · have q3 : ¬ (300 : Int) < (y.size : Int) := by omega
            have HT := Kp.mk (show fldFew (x, y) = true by rw [HF.out, decide_eq_true hx, decide_eq_true hy]; rfl)
            clear hx hy
            go_wp2_with fail
            go_roundw
            case rel =>
              refine ⟨k + 1, by omega, by go_num, fun j hj h => ?_, HB2.out⟩
              by_cases hjk : j = k
              · subst hjk
                rw [HP.out]
                exact HT.out
              · exact HH.out j hj (by omega)
            case measure => simp [intOf]; omega
          · have q3 : (300 : Int) < (y.size : Int) := by omega
            have HT := Kp.mk (HBad.out (by rw [HF.out, decide_eq_false hy, Bool.and_false]))
            clear hx hy
            go_wp2_with fail
            go_ret
            exact ⟨by rw [HT.out]; rfl, HB2.out⟩
        · have q2 : (100 : Int) < (x.size : Int) := by omega
          have HT := Kp.mk (HBad.out (by rw [HF.out, decide_eq_false hx, Bool.false_and]))
          clear hx
          go_wp2_with fail
          go_ret
          exact ⟨by rw [HT.out]; rfl, HB2.out⟩
      · have HK := Kp.mk (hFew_all h0 fun j hj => HH.out j hj (by omega))
        go_wp2_with fail
        go_ret
        exact ⟨by rw [HK.out]; rfl, HB.out⟩
  · have q9 : (40 : Int) < (l.length : Int) := by omega
    have HK := Kp.mk (hFew_big h0)
    go_wp2_with fail
    go_ret
    exact ⟨by rw [HK.out]; rfl, Below.refl _ _⟩
set_option maxRecDepth 100000 in
set_option maxHeartbeats 4000000 in
theorem lives10_any (w : World) : Calls Try.prog 11 #[] w fun e w' => e = .returned (.bool true) ∧ Below w.heap.size w w' := by
  go_enter Try.func11, Try.ntmps11
  go_wp2_with fail
  have L3 := World.ownsRow_lit (base := w.heap.size) (e := 34) (size := 2) w #[.string ⟨#[65]⟩, .string ⟨#[49]⟩, .string ⟨#[66]⟩, .string ⟨#[50]⟩, .string ⟨#[97]⟩, .string ⟨#[51]⟩] 3 (Nat.le_refl _) (by unfold maxLen; omega) rfl
  have R3 := rdf_own (l := [(⟨#[65]⟩, ⟨#[49]⟩), (⟨#[66]⟩, ⟨#[50]⟩), (⟨#[97]⟩, ⟨#[51]⟩)]) L3
  refine (hcomb_any _ _ _ _ R3 (by intro p hp; simp at hp; rcases hp with rfl | rfl | rfl <;> exact ⟨by decide, by decide⟩) (by decide) (by decide)).mono ?_
  rintro e w1 ⟨rfl, hb1⟩
  have HJ : hJoin (hAll [(⟨#[65]⟩, ⟨#[49]⟩), (⟨#[66]⟩, ⟨#[50]⟩), (⟨#[97]⟩, ⟨#[51]⟩)] ⟨#[97]⟩) = ⟨#[49, 44, 32, 51]⟩ := by kernel_rfl
  have HI : hIs [(⟨#[65]⟩, ⟨#[49]⟩), (⟨#[66]⟩, ⟨#[50]⟩), (⟨#[97]⟩, ⟨#[51]⟩)] ⟨#[97]⟩ = true := by kernel_rfl
  rw [HJ, HI]
  have HB1 := Kp.mk (((Below.refl w.heap.size w).alloc (Nat.le_refl _) _).trans (hb1.mono (by simp)))
  clear L3 R3 HJ HI hb1
  go_wp2_with fail
  refine (hwith_any _ [] _ _ _ ⟨_, _, rfl, Nat.le_refl _, by decide, fun h => absurd h (by decide)⟩ (by decide)).mono ?_
  rintro e w2 ⟨v2, rfl, ho2, hb2⟩
  have HB2 := Kp.mk (HB1.out.trans (hb2.mono HB1.out.size))
  obtain ⟨a2, c2, rfl⟩ := own_lenH ho2
  have HR2 := Kp.mk (rdf_own ho2)
  clear hb2 ho2
  go_wp2_with fail
  have L4 := World.ownsRow_lit (base := w2.heap.size) (e := 34) (size := 2) w2 #[.string ⟨#[65]⟩, .string ⟨#[49]⟩] 1 (Nat.le_refl _) (by unfold maxLen; omega) rfl
  have R4 := rdf_own (l := [(⟨#[65]⟩, ⟨#[49]⟩)]) L4
  have HA := (Below.refl w2.heap.size w2).alloc (Nat.le_refl _) (.cells #[.string ⟨#[65]⟩, .string ⟨#[49]⟩] 34)
  refine (hsame_any _ _ _ _ _ (HR2.out.below HA) R4 (by decide) (by decide)).mono ?_
  rintro e w3 ⟨rfl, hb3⟩
  have HS : sameL ([] ++ [((⟨#[65]⟩ : ByteArray), (⟨#[49]⟩ : ByteArray))]) [((⟨#[65]⟩ : ByteArray), (⟨#[49]⟩ : ByteArray))] = true := decide_eq_true rfl
  rw [HS]
  have HB3 := Kp.mk ((HB2.out.trans (HA.mono HB2.out.size)).trans (hb3.mono (by have := HB2.out.size; simp; omega)))
  clear L4 R4 HA HS hb3
  go_wp2_with fail
  go_ret
  exact ⟨rfl, HB3.out⟩
end Go.Proofs.Ytaniokdgekgdkaa
