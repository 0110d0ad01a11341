/- Lists (layer 7): the law ListsBack. -/
import Derived.Test.YtopobhihgeadmaaLsi
import Derived.Test.YtopobhihgeadmaaLsk
namespace Go.Proofs.Ytopobhihgeadmaa
open Go.RowKit
set_option linter.unusedVariables false
set_option linter.unusedSimpArgs false

set_option maxRecDepth 100000 in
set_option maxHeartbeats 2000000 in
theorem lback_walk (s0 : ByteArray) (w : World) (hs : s0.size ≤ maxLen) :
    Calls Try.prog 9 #[.string s0] w fun e w' => e = .returned (.bool true) ∧ Below w.heap.size w w' := by
  unfold maxLen at hs
  have HX := Kp.mk (show (s0.extract 0 (min (s0.size : Int) 1000).toNat).size ≤ 1000 by rw [ByteArray.size_extract]; omega)
  go_enter Try.func9, Try.ntmps9
  go_upto_region 1 with fail
  go_cut [0] (fun u0 wx => ∃ s : ByteArray, u0 = .string s ∧ s.size ≤ 1000 ∧ wx = w)
  case first =>
    go_wp2_with fail
    go_meet
    exact ⟨_, rfl, by first | exact HX.out | (rw [ByteArray.size_extract]; omega), rfl⟩
  case rest =>
    obtain ⟨s, rfl, h1, rfl⟩ := hcut
    have hln := splL_len s
    have HSE := Kp.mk (fun x (h : x ∈ splL s) => hasB_me h)
    have HM := Kp.mk (fun x (h : x ∈ splL s) => splL_mem h)
    have HSM := Kp.mk (show ∀ x ∈ splL s, x.size ≤ 100000 from fun x h => by have := (splL_mem h).2; omega)
    obtain ⟨ag1, ag2⟩ := spl_again s
    have AG1 := Kp.mk ag1
    have AG2 := Kp.mk ag2
    have hjs := hJoin_size HSM.out
    have HNO := Kp.mk (show splB s = false → splL s = [] from fun h => by unfold splL; rw [h]; rfl)
    clear HX hs ag1 ag2
    go_wp2_with fail
    refine (split_any s _ (by omega)).mono ?_
    rintro e w1 ⟨v, rfl, ho, hb1⟩
    have HB1 := Kp.mk hb1
    have HR := Kp.mk (rds_own ho)
    obtain ⟨a, c, rfl⟩ := own_lenH ho
    clear ho hb1
    cases hok : splB s
    · have HN := Kp.mk (HNO.out hok)
      rw [HN.out] at *
      go_wp2_with fail
      refine (lives07_any _).mono ?_
      rintro e w6 ⟨rfl, hb6⟩
      have HB6 := Kp.mk (HB1.out.trans (hb6.mono HB1.out.size))
      clear hb6
      go_wp2_with fail
      go_ret
      exact ⟨rfl, HB6.out⟩
    · have hmul : (splL s).length * 100002 ≤ 1001 * 100002 := Nat.mul_le_mul_right _ (by omega)
      go_wp2_with fail
      refine (hjoin_any _ (splL s) _ HR.out HSM.out (by omega)).mono ?_
      rintro e w2 ⟨rfl, hb2⟩
      have HB2 := Kp.mk (HB1.out.trans (hb2.mono HB1.out.size))
      have HR2 := Kp.mk (HR.out.below hb2)
      clear hb2
      have hjz : (hJoin (splL s)).size ≤ 200000000 := by omega
      clear hjs hmul
      go_wp2_with fail
      refine (split_any (hJoin (splL s)) _ hjz).mono ?_
      rintro e w3 ⟨v3, rfl, ho3, hb3⟩
      rw [AG2.out] at ho3
      rw [AG1.out]
      have HB3 := Kp.mk (HB2.out.trans (hb3.mono HB2.out.size))
      have HR3 := Kp.mk (HR2.out.below hb3)
      have HRM := Kp.mk (rds_own ho3)
      obtain ⟨a3, c3, rfl⟩ := own_lenH ho3
      clear ho3 hb3 AG1 AG2 hjz
      generalize splL s = L at *
      go_wp2_with fail
      go_loopw [35] (fun i wr => ∃ k : Nat, k ≤ L.length ∧ i = .int .i64 k ∧ Below w3.heap.size w3 wr) (fun i _ => L.length - (intOf i).toNat)
      case atStart => exact ⟨0, by omega, rfl, Below.refl _ _⟩
      case round =>
        obtain ⟨k, hk, rfl, hb⟩ := hrel
        have HB := Kp.mk hb
        have HBW := Kp.mk (HB3.out.trans (hb.mono HB3.out.size))
        clear hb
        by_cases hlt : k < L.length
        · obtain ⟨g, o, rfl, hgl, d0⟩ := rds_cells (HR3.out.below HB.out) (by omega)
          have c1 := d0 k hlt
          obtain ⟨m1, m2⟩ := HM.out L[k] (List.getElem_mem hlt)
          have q0 : (0 : Int) ≤ (k : Int) := by omega
          have q1 : (k : Int) < (L.length : Int) := by omega
          have HME := Kp.mk (HSE.out L[k] (List.getElem_mem hlt))
          clear d0
          generalize L[k] = x at *
          have hx2 : ¬ x.toList = [] := fun e => m1 (by rw [ba_size', ← ByteArray.toList_eq, e]; rfl)
          have hx3 : x.toList.isEmpty = false := by rw [List.isEmpty_eq_false_iff]; exact hx2
          clear m1
          go_wp2_with fail
          refine (has_any s x _ (by omega) (by omega)).mono ?_
          rw [HME.out]
          rintro e w4 ⟨rfl, hb4⟩
          have HB4 := Kp.mk (HB.out.trans (hb4.mono HB.out.size))
          clear hb4
          go_wp2_with fail
          go_roundw
          case rel => exact ⟨k + 1, by omega, by go_num, HB4.out⟩
          case measure => simp [intOf]; omega
        · have q1 : ¬ (k : Int) < (L.length : Int) := by omega
          go_wp2_with fail
          refine (rssame_any _ _ L L _ (HR3.out.below HB.out) (HRM.out.below HB.out) (by omega) (by omega)).mono ?_
          rw [sameL_s]
          rintro e w4 ⟨rfl, hb4⟩
          have HB4 := Kp.mk (HBW.out.trans (hb4.mono HBW.out.size))
          clear hb4
          go_wp2_with fail
          refine (lives07_any _).mono ?_
          rintro e w6 ⟨rfl, hb6⟩
          have HB6 := Kp.mk (HB4.out.trans (hb6.mono HB4.out.size))
          clear hb6
          go_wp2_with fail
          go_ret
          exact ⟨rfl, HB6.out⟩
theorem lback_arg (v0 : Value) (w : World) (h0 : Arg Try.prog w 9 v0) :
    Calls Try.prog 9 #[v0] w fun e w' => e = .returned (.bool true) ∧ Below w.heap.size w w' := by
  obtain ⟨s, rfl, hs⟩ := h0.str Try.underlying9
  exact lback_walk s w hs
end Go.Proofs.Ytopobhihgeadmaa
