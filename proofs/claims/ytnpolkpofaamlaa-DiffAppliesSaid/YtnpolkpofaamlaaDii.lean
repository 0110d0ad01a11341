/- How lists of lines differ (layer 51): the laws DiffBack and DiffApplies (bin/mkdii.py). -/
import Derived.Test.YtnpolkpofaamlaaDih
namespace Go.Proofs.Ytnpolkpofaamlaa
open Go.RowKit
set_option linter.unusedVariables false
set_option linter.unusedSimpArgs false

theorem apR_back (a b : Ln) : apR a (dfL a b) = true ∧ apL a (dfL a b) = b ∧ apR b (trL (dfL a b)) = true ∧ apL b (trL (dfL a b)) = a := by
  obtain ⟨h1, h2, h3⟩ := dfL_ok a b
  obtain ⟨k1, k2, k3⟩ := tr_ok h1
  have r1 : apR a (dfL a b) = true := by unfold apR; rw [h1, h2]; simp
  have r2 : apR b (trL (dfL a b)) = true := by unfold apR; rw [k1, k2, h3]; simp
  refine ⟨r1, ?_, r2, ?_⟩
  · unfold apL; rw [if_pos r1, h3]
  · unfold apL; rw [if_pos r2, k3, h2]
theorem sameL_refl {l : Ln} : sameL l l = true := decide_eq_true rfl
theorem rssame_eq (v1 v2 : Value) (l : Ln) (w : World) (h1 : RdS w v1 l) (h2 : RdS w v2 l) (hl : l.length ≤ 1000000) :
    Calls Try.prog 52 #[v1, v2] w fun e w' => e = .returned (.bool true) ∧ Below w.heap.size w w' :=
  (rssame_any v1 v2 l l w h1 h2 hl hl).mono fun e w' h => ⟨by rw [h.1, sameL_refl], h.2⟩
theorem own51 (a : Ln) : (dfL a a).length = a.length ∧ ∀ (j : Nat) (h : j < (dfL a a).length), (dfL a a)[j].1 = 0 := by
  refine ⟨by rw [dfL_own, List.length_map], fun j h => ?_⟩
  have e : (dfL a a)[j]? = (a.map fun x => ((0 : Int), x))[j]? := by rw [dfL_own]
  rw [List.getElem?_eq_getElem h, List.getElem?_map] at e
  cases hx : a[j]? with
  | none => rw [hx] at e; cases e
  | some x => rw [hx] at e; rw [Option.some.inj e]
set_option maxRecDepth 100000 in
set_option maxHeartbeats 1000000 in
theorem dback_walk (va vb : Value) (a b : Ln) (w : World) (ha : RdS w va a) (hb : RdS w vb b) :
    Calls Try.prog 14 #[va, vb] w fun e w' => e = .returned (.bool true) ∧ Below w.heap.size w w' := by
  have HA := Kp.mk ha
  have HB := Kp.mk hb
  obtain ⟨aa, ca, rfl, _, hc2, -⟩ := ha
  obtain ⟨ab, cb, rfl, _, hc4, -⟩ := hb
  have HFA := Kp.mk (fun w h => few51_any (.slice aa a.length ca) a w h)
  have HFB := Kp.mk (fun w h => few51_any (.slice ab b.length cb) b w h)
  have HLA := Kp.mk (fun h => (few51_len (l := a) h).1)
  have HLB := Kp.mk (fun h => (few51_len (l := b) h).1)
  have HBK := Kp.mk (apR_back a b)
  have HDL := Kp.mk (dfL_len a b)
  have HTL := Kp.mk (trL_len (dfL a b))
  have HOW := Kp.mk (own51 a)
  have HLI := Kp.mk (fun w h1 h2 h3 h4 => dlines_any (.slice aa a.length ca) (.slice ab b.length cb) a b w h1 h2 h3 h4)
  have HLO := Kp.mk (fun w h1 h2 h3 h4 => dlines_any (.slice aa a.length ca) (.slice aa a.length ca) a a w h1 h2 h3 h4)
  have hla9 : a.length ≤ 9223372036854775807 := by unfold maxLen at hc2; omega
  have hlb9 : b.length ≤ 9223372036854775807 := by unfold maxLen at hc4; omega
  generalize hn : a.length = n at *
  generalize hm : b.length = m at *
  have HN := Kp.mk hn
  have HM := Kp.mk hm
  generalize few51 a = ra at *
  generalize few51 b = rb at *
  generalize dfL a b = L at *
  generalize dfL a a = O at *
  clear hn hm
  cases ra
  · go_enter Try.func14, Try.ntmps14
    go_wp2_with fail
    refine (HFA.out _ HA.out).mono ?_
    rintro e w1 ⟨rfl, hb1⟩
    have HB1 := Kp.mk hb1
    clear hb1
    go_wp2_with fail
    refine (lives51_any _).mono ?_
    rintro e w2 ⟨rfl, hb2⟩
    go_wp2_with fail
    go_ret
    exact ⟨rfl, HB1.out.trans (hb2.mono HB1.out.size)⟩
  · cases rb
    · go_enter Try.func14, Try.ntmps14
      go_wp2_with fail
      refine (HFA.out _ HA.out).mono ?_
      rintro e w1 ⟨rfl, hb1⟩
      have HB1 := Kp.mk hb1
      clear hb1
      go_wp2_with fail
      refine (HFB.out _ (HB.out.below HB1.out)).mono ?_
      rintro e w2 ⟨rfl, hb2⟩
      have HB2 := Kp.mk (HB1.out.trans (hb2.mono HB1.out.size))
      clear hb2
      go_wp2_with fail
      refine (lives51_any _).mono ?_
      rintro e w3 ⟨rfl, hb3⟩
      go_wp2_with fail
      go_ret
      exact ⟨rfl, HB2.out.trans (hb3.mono HB2.out.size)⟩
    · have hna := HLA.out rfl
      have hmb := HLB.out rfl
      go_enter Try.func14, Try.ntmps14
      go_wp2_with fail
      refine (HFA.out _ HA.out).mono ?_
      rintro e w1 ⟨rfl, hb1⟩
      have HB1 := Kp.mk hb1
      clear hb1
      go_wp2_with fail
      refine (HFB.out _ (HB.out.below HB1.out)).mono ?_
      rintro e w2 ⟨rfl, hb2⟩
      have HB2 := Kp.mk (HB1.out.trans (hb2.mono HB1.out.size))
      clear hb2
      go_wp2_with fail
      refine (HLI.out _ (HA.out.below HB2.out) (HB.out.below HB2.out) (by omega) (by omega)).mono ?_
      rintro e w3 ⟨v3, rfl, ho3, hb3⟩
      have HR3 := Kp.mk (rddr_own ho3)
      have HB3 := Kp.mk (HB2.out.trans (hb3.mono HB2.out.size))
      obtain ⟨a3, c3, rfl⟩ := own_lenH ho3
      have hL1 : L.length ≤ 1000 := by have := HDL.out; omega
      have hL2 : ¬ (n : Int) + (m : Int) < (L.length : Int) := by have := HDL.out; omega
      clear ho3 hb3
      go_wp2_with fail
      refine (dapply_any _ _ a L _ (HA.out.below HB3.out) HR3.out hL1 (by have := HN.out; omega)).mono ?_
      rintro e w4 ⟨v4, rfl, hx4, hb4⟩
      rw [HBK.out.1]
      rw [HBK.out.2.1] at hx4
      have HX4 := Kp.mk hx4
      have HB4 := Kp.mk (HB3.out.trans (hb4.mono HB3.out.size))
      have HR4 := Kp.mk (HR3.out.below hb4)
      clear hx4 hb4
      go_wp2_with fail
      refine (dturn_any _ L _ HR4.out hL1).mono ?_
      rintro e w5 ⟨v5, rfl, ho5, hb5⟩
      have HR5 := Kp.mk (rddr_own ho5)
      have HX5 := Kp.mk (HX4.out.below hb5)
      have HB5 := Kp.mk (HB4.out.trans (hb5.mono HB4.out.size))
      clear ho5 hb5
      go_wp2_with fail
      refine (dapply_any _ _ b (trL L) _ (HB.out.below HB5.out) HR5.out (by rw [HTL.out]; exact hL1) (by have := HM.out; omega)).mono ?_
      rintro e w6 ⟨v6, rfl, hx6, hb6⟩
      rw [HBK.out.2.2.1]
      rw [HBK.out.2.2.2] at hx6
      have HY6 := Kp.mk hx6
      have HX6 := Kp.mk (HX5.out.below hb6)
      have HB6 := Kp.mk (HB5.out.trans (hb6.mono HB5.out.size))
      clear hx6 hb6
      go_wp2_with fail
      refine (rssame_eq _ _ b _ HX6.out (HB.out.below HB6.out) (by have := HM.out; omega)).mono ?_
      rintro e w7 ⟨rfl, hb7⟩
      have HY7 := Kp.mk (HY6.out.below hb7)
      have HB7 := Kp.mk (HB6.out.trans (hb7.mono HB6.out.size))
      clear hb7
      go_wp2_with fail
      refine (rssame_eq _ _ a _ HY7.out (HA.out.below HB7.out) (by have := HN.out; omega)).mono ?_
      rintro e w8 ⟨rfl, hb8⟩
      have HB8 := Kp.mk (HB7.out.trans (hb8.mono HB7.out.size))
      clear hb8
      go_wp2_with fail
      refine (HLO.out _ (HA.out.below HB8.out) (HA.out.below HB8.out) (by omega) (by omega)).mono ?_
      rintro e w9 ⟨v9, rfl, ho9, hb9⟩
      have HB9 := Kp.mk (HB8.out.trans (hb9.mono HB8.out.size))
      have HR9 := Kp.mk (rddr_own ho9)
      obtain ⟨a9, c9, rfl⟩ := own_lenH ho9
      clear ho9 hb9
      have hol : O.length = n := HOW.out.1
      rw [hol] at HR9 ⊢
      go_wp2_with fail
      go_loopw [71] (fun i wr => ∃ k : Nat, k ≤ n ∧ i = .int .i64 k ∧ Below w9.heap.size w9 wr) (fun i _ => n - (intOf i).toNat)
      case atStart => exact ⟨0, Nat.zero_le _, rfl, Below.refl _ _⟩
      case round =>
        obtain ⟨k, hk, rfl, hb⟩ := hrel
        have HBW := Kp.mk hb
        clear hb
        by_cases hlt : k < n
        · have hkl : k < O.length := by omega
          obtain ⟨g, o, rfl, hg, d⟩ := rddr_cells (HR9.out.below HBW.out) (by omega)
          obtain ⟨c1, c2⟩ := d k hkl
          rw [HOW.out.2 k hkl] at c1
          have q1 : (k : Int) < (n : Int) := by omega
          clear d
          generalize (O[k]'hkl).2 = t at *
          have hbx := heap_alloc_new wr (.cells #[.int .i64 0, .string t] 99)
          have b0 := blk_cell (i := 0) hbx rfl
          have HBA := Kp.mk (HBW.out.alloc HBW.out.size (.cells #[.int .i64 0, .string t] 99))
          clear hbx hkl
          go_wp2_with fail
          go_roundw
          case rel => exact ⟨k + 1, by omega, by go_num, HBA.out⟩
          case measure => simp [intOf] <;> omega
        · have e9 : ((n : Int) == (n : Int)) = true := by simp
          have HBZ := Kp.mk (HB9.out.trans (HBW.out.mono HB9.out.size))
          go_wp2_with fail
          refine (lives51_any _).mono ?_
          rintro e w10 ⟨rfl, hb10⟩
          go_wp2_with fail
          go_ret
          exact ⟨rfl, HBZ.out.trans (hb10.mono HBZ.out.size)⟩
theorem dback_arg (v0 v1 : Value) (w : World) (h0 : Arg Try.prog w 84 v0) (h1 : Arg Try.prog w 84 v1) :
    Calls Try.prog 14 #[v0, v1] w fun e w' => e = .returned (.bool true) ∧ Below w.heap.size w w' := by
  obtain ⟨a, ha, -⟩ := h0.strs Try.underlying84 Try.underlying9 Try.fcellsDS
  obtain ⟨b, hb, -⟩ := h1.strs Try.underlying84 Try.underlying9 Try.fcellsDS
  exact dback_walk v0 v1 a b w ha hb

end Go.Proofs.Ytnpolkpofaamlaa
