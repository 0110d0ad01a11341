/- What is said to caches (layer 21): the law CacheBack. -/
import Derived.Test.YtahehpgnemanmaaCcq
import Derived.Test.YtahehpgnemanmaaCcl
namespace Go.Proofs.Ytahehpgnemanmaa
open Go.RowKit
set_option linter.unusedVariables false
set_option linter.unusedSimpArgs false

set_option maxRecDepth 100000 in
set_option maxHeartbeats 4000000 in
theorem cback21_walk (s0 : ByteArray) (w : World) (hs : s0.size ≤ maxLen) :
    Calls Try.prog 8 #[.string s0] w fun e w' => e = .returned (.bool true) ∧ Below w.heap.size w w' := by
  unfold maxLen at hs
  have HA := Kp.mk (ext1000 s0)
  go_enter Try.func8, Try.ntmps8
  go_upto_region 1 with fail
  go_cut [0] (fun u0 wx => ∃ s : ByteArray, u0 = .string s ∧ s.size ≤ 1000 ∧ wx = w)
  case first =>
    by_cases hq : s0.size ≤ 1000
    · have q1 : ¬ (1000 : Int) < (s0.size : Int) := by omega
      go_wp2_with fail
      go_meet
      refine ⟨_, rfl, ?_, rfl⟩
      first | omega | (simp; omega) | (rw [ByteArray.size_extract]; omega)
    · have q1 : (1000 : Int) < (s0.size : Int) := by omega
      go_wp2_with fail
      go_meet
      refine ⟨_, rfl, ?_, rfl⟩
      first | exact HA.out | omega | (simp; omega) | (rw [ByteArray.size_extract]; omega)
  case rest =>
    obtain ⟨s, rfl, hsz, rfl⟩ := hcut
    clear HA hs
    have hpl := prs_len s
    have HP1 := Kp.mk (fun W => parse21_any s W (by omega))
    unfold RetD at HP1
    cases hok : prsOk s
    · have hD : prs s = [] := by unfold prs; rw [hok]; rfl
      rw [hok, hD] at HP1
      clear hok hD hpl
      go_wp2_with fail
      refine (HP1.out _).mono ?_
      rintro e w2 ⟨u, rfl, ho, hb2⟩
      have HB2 := Kp.mk hb2
      obtain ⟨a2, c2, rfl⟩ := own_lenH ho
      clear ho hb2
      go_wp2_with fail
      refine (lives21_any _).mono ?_
      rintro e w9 ⟨rfl, hb9⟩
      have HB9 := Kp.mk (HB2.out.trans (hb9.mono HB2.out.size))
      clear hb9
      go_wp2_with fail
      go_ret
      exact ⟨rfl, HB9.out⟩
    · obtain ⟨k1, k2, k3, k4⟩ := prs_back hok
      obtain ⟨z1, z2⟩ := prs_txz hsz hok
      have HSM := Kp.mk (prs_sm hsz)
      have HP2 := Kp.mk (fun W => parse21_in (txt (prs s)) W z1 z2)
      have HT := Kp.mk (fun v W h1 h2 => text21_any v (prs s) W h1 h2 (by omega))
      unfold RetD at HP2
      rw [k2, k3] at HP2
      rw [k1] at HT
      rw [hok] at HP1
      clear k1 k2 k3 k4 z2 hok
      generalize txt (prs s) = tx at *
      generalize prs s = D at *
      go_wp2_with fail
      refine (HP1.out _).mono ?_
      rintro e w2 ⟨u, rfl, ho, hb2⟩
      have HB2 := Kp.mk hb2
      have RA := Kp.mk (rdd_own ho)
      obtain ⟨a2, c2, rfl⟩ := own_lenH ho
      clear ho hb2
      go_wp2_with fail
      refine (HT.out _ _ RA.out HSM.out).mono ?_
      rintro e w4 ⟨rfl, hb4⟩
      have HB4 := Kp.mk (HB2.out.trans (hb4.mono HB2.out.size))
      have RA4 := Kp.mk (RA.out.below hb4)
      clear hb4
      go_wp2_with fail
      refine (HP2.out _).mono ?_
      rintro e w3 ⟨u, rfl, ho, hb3⟩
      have HB3 := Kp.mk (HB4.out.trans (hb3.mono HB4.out.size))
      have RB := Kp.mk (rdd_own ho)
      have RA3 := Kp.mk (RA4.out.below hb3)
      obtain ⟨a3, c3, rfl⟩ := own_lenH ho
      clear ho hb3
      go_wp2_with fail
      refine (same21_any _ _ D _ RA3.out RB.out (by omega)).mono ?_
      rintro e w6 ⟨rfl, hb6⟩
      have HB6 := Kp.mk (HB3.out.trans (hb6.mono HB3.out.size))
      clear hb6
      go_wp2_with fail
      refine (lives21_any _).mono ?_
      rintro e w9 ⟨rfl, hb9⟩
      have HB9 := Kp.mk (HB6.out.trans (hb9.mono HB6.out.size))
      clear hb9
      go_wp2_with fail
      go_ret
      exact ⟨rfl, HB9.out⟩
theorem cback21_arg (v0 : Value) (w : World) (h0 : Arg Try.prog w 9 v0) :
    Calls Try.prog 8 #[v0] w fun e w' => e = .returned (.bool true) ∧ Below w.heap.size w w' := by
  obtain ⟨x, rfl, hx⟩ := h0.str Try.underlying9
  exact cback21_walk x w hx
end Go.Proofs.Ytahehpgnemanmaa
