/- The statements' guard on fields (layer 10). -/
import Derived.Test.YtcbfhlnnfnpkdaaGreatDoorHde
namespace Go.Proofs.YtcbfhlnnfnpkdaaGreatDoor
open Go.RowKit
set_option linter.unusedVariables false
set_option linter.unusedSimpArgs false

def fldFew (p : Fld) : Bool := decide (p.1.size ≤ 100) && decide (p.2.size ≤ 300)
def hFew (l : List Fld) : Bool := decide (l.length ≤ 40) && l.all fldFew
theorem hFew_big {l : List Fld} (h : ¬ l.length ≤ 40) : hFew l = false := by unfold hFew; rw [decide_eq_false h]; rfl
theorem hFew_bad {l : List Fld} {k : Nat} (h : k < l.length) (hf : fldFew l[k] = false) : hFew l = false := by
  unfold hFew
  rw [Bool.and_eq_false_iff]
  exact .inr (List.all_eq_false.2 ⟨l[k], List.getElem_mem h, by simp [hf]⟩)
theorem hFew_all {l : List Fld} (h0 : l.length ≤ 40) (h : ∀ j (hj : j < l.length), fldFew l[j] = true) : hFew l = true := by
  unfold hFew
  rw [decide_eq_true h0, Bool.true_and]
  exact List.all_eq_true.2 fun p hp => by
    obtain ⟨j, hj, rfl⟩ := List.getElem_of_mem hp
    exact h j hj
theorem hFew_out {l : List Fld} (h : hFew l = true) : l.length ≤ 40 ∧ ∀ p ∈ l, FldSm p := by
  unfold hFew at h
  rw [Bool.and_eq_true] at h
  refine ⟨of_decide_eq_true h.1, fun p hp => ?_⟩
  have := List.all_eq_true.1 h.2 p hp
  unfold fldFew at this
  rw [Bool.and_eq_true] at this
  have h1 := of_decide_eq_true this.1
  have h2 := of_decide_eq_true this.2
  exact ⟨by omega, by omega⟩
set_option maxRecDepth 100000 in
set_option maxHeartbeats 2000000 in
theorem few10_any (v : Value) (l : List Fld) (w : World) (hv : RdF w v l) (hz : ∀ p ∈ l, FldOk p) :
    Calls Tryz.prog 34 #[v] w fun e w' => e = .returned (.bool (hFew l)) ∧ Below w.heap.size w w' := by
  have HV := Kp.mk hv
  have HZ := Kp.mk hz
  obtain ⟨a, cap, rfl, hc1, hc2, -⟩ := hv
  clear hz
  go_enter Tryz.func34, Tryz.ntmps34
  by_cases h0 : l.length ≤ 40
  · have q9 : ¬ (40 : Int) < (l.length : Int) := by omega
    go_wp2_with fail
    go_loopw [10] (fun i wr => ∃ k : Nat, k ≤ l.length ∧ i = .int .i64 k ∧ (∀ j (hj : j < l.length), j < k → fldFew l[j] = true) ∧ Below w.heap.size w wr) (fun i _ => l.length - (intOf i).toNat)
    case atStart => exact ⟨0, by omega, rfl, fun j _ h => by omega, Below.refl _ _⟩
    case round =>
      obtain ⟨k, hk, rfl, hh, hb⟩ := hrel
      have HB := Kp.mk hb
      have HH := Kp.mk hh
      have hsz := hb.size
      clear hh hb
      by_cases hlt : k < l.length
      · obtain ⟨g, o, rfl, hgl, d0⟩ := rdf_cells (HV.out.below HB.out) (by omega)
        obtain ⟨c1, c2⟩ := d0 k hlt
        obtain ⟨m1, m2⟩ := HZ.out l[k] (List.getElem_mem hlt)
        have q0 : (0 : Int) ≤ (k : Int) := by omega
        have q1 : (k : Int) < (l.length : Int) := by omega
        have HBad := Kp.mk (hFew_bad (l := l) hlt)
        have HF := Kp.mk (show fldFew l[k] = (decide (l[k].1.size ≤ 100) && decide (l[k].2.size ≤ 300)) from rfl)
        clear d0
        generalize hp : l[k] = p at *
        have HP := Kp.mk hp
        clear hp
        obtain ⟨x, y⟩ := p
        simp only at c1 c2 m1 m2
        have HB2 := Kp.mk (HB.out.alloc hsz (.cells #[.string x, .string y] 67))
        by_cases hx : x.size ≤ 100
        · have q2 : ¬ (100 : Int) < (x.size : Int) := by omega
          by_cases hy : y.size ≤ 300
          · have q3 : ¬ (300 : Int) < (y.size : Int) := by omega
            have HT := Kp.mk (show fldFew (x, y) = true by rw [HF.out, decide_eq_true hx, decide_eq_true hy]; rfl)
            clear hx hy
            go_wp2_with fail
            go_roundw
            case rel =>
              refine ⟨k + 1, by omega, by go_num, fun j hj h => ?_, HB2.out⟩
              by_cases hjk : j = k
              · subst hjk
                rw [HP.out]
                exact HT.out
              · exact HH.out j hj (by omega)
            case measure => simp [intOf]; omega
          · have q3 : (300 : Int) < (y.size : Int) := by omega
            have HT := Kp.mk (HBad.out (by rw [HF.out, decide_eq_false hy, Bool.and_false]))
            clear hx hy
            go_wp2_with fail
            go_ret
            exact ⟨by rw [HT.out]; rfl, HB2.out⟩
        · have q2 : (100 : Int) < (x.size : Int) := by omega
          have HT := Kp.mk (HBad.out (by rw [HF.out, decide_eq_false hx, Bool.false_and]))
          clear hx
          go_wp2_with fail
          go_ret
          exact ⟨by rw [HT.out]; rfl, HB2.out⟩
      · have HK := Kp.mk (hFew_all h0 fun j hj => HH.out j hj (by omega))
        go_wp2_with fail
        go_ret
        exact ⟨by rw [HK.out]; rfl, HB.out⟩
  · have q9 : (40 : Int) < (l.length : Int) := by omega
    have HK := Kp.mk (hFew_big h0)
    go_wp2_with fail
    go_ret
    exact ⟨by rw [HK.out]; rfl, Below.refl _ _⟩
theorem hFew_vals {l : List Fld} (h : hFew l = true) : ∀ p ∈ l, p.1.size ≤ 100 ∧ p.2.size ≤ 300 := by
  unfold hFew at h
  rw [Bool.and_eq_true] at h
  intro p hp
  have := List.all_eq_true.1 h.2 p hp
  unfold fldFew at this
  rw [Bool.and_eq_true] at this
  exact ⟨of_decide_eq_true this.1, of_decide_eq_true this.2⟩
end Go.Proofs.YtcbfhlnnfnpkdaaGreatDoor
