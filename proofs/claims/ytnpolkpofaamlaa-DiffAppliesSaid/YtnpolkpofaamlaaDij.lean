/- How lists of lines differ (layer 51): the law DiffApplies. -/
import Derived.Test.YtnpolkpofaamlaaDii
namespace Go.Proofs.Ytnpolkpofaamlaa
open Go.RowKit
set_option linter.unusedVariables false
set_option linter.unusedSimpArgs false

theorem dr_of {P : Program} {w : World} {t ti ts : TypeId} {fs : Array Field} {E : List Value} (ht : P.underlying t = some (.struct fs)) (hi : P.underlying ti = some (.int .i64)) (hs : P.underlying ts = some .string) (hc : P.cellsOf t = 2) (hci : P.cellsOf ti = 1) (hcs : P.cellsOf ts = 1)
    (h0 : ∃ f, fs[0]? = some f ∧ f.type = ti ∧ f.offset = 0) (h1 : ∃ f, fs[1]? = some f ∧ f.type = ts ∧ f.offset = 1) (h : Rdb P w t E) :
    ∃ p : Dr, E = drC p ∧ (Lit.int .i64 p.1).wf = true := by
  obtain ⟨hl, hf⟩ := h.struct ht
  obtain ⟨f0, e0, t0, o0⟩ := h0
  obtain ⟨f1, e1, t1, o1⟩ := h1
  have g0 := hf 0 f0 e0
  have g1 := hf 1 f1 e1
  rw [t0, o0, hci] at g0
  rw [t1, o1, hcs] at g1
  obtain ⟨s0, k0, z0⟩ := g0.int hi
  obtain ⟨s1, k1, z1⟩ := g1.str hs
  rw [hc] at hl
  match E, hl with
  | [x, y], _ =>
    simp at k0 k1
    exact ⟨(s0, s1), by simp [drC, k0, k1], z0⟩
theorem Try.fcellsDR : Try.prog.cellsOf 99 = 2 := by kernel_rfl
theorem Try.fcellsDI : Try.prog.cellsOf 3 = 1 := by kernel_rfl
theorem dr_arg (v1 : Value) (w : World) (h1 : Arg Try.prog w 91 v1) : ∃ ps, RdDr w v1 ps ∧ ∀ p ∈ ps, (Lit.int .i64 p.1).wf = true :=
  h1.list (f := drC) (Q := fun p => (Lit.int .i64 p.1).wf = true) Try.underlying91 Try.fcellsDR (by omega) fun E hE =>
    dr_of Try.underlying99 Try.underlying3 Try.underlying9 Try.fcellsDR Try.fcellsDI Try.fcellsDS ⟨_, rfl, rfl, rfl⟩ ⟨_, rfl, rfl, rfl⟩ hE
theorem trL_at {L : List Dr} {k : Nat} (h : k < L.length) : ∃ h2 : k < (trL L).length, (trL L)[k] = (trI L[k].1, L[k].2) := ⟨by rw [trL_len]; exact h, by unfold trL; rw [List.getElem_map]⟩
theorem drL_take {L : List Dr} {k : Nat} (h : k < L.length) : drL (L.take (k + 1)) = drL (L.take k) ++ drC L[k] := by rw [List.take_succ_eq_append_getElem h, drL_snoc]
set_option maxRecDepth 100000 in
set_option maxHeartbeats 1500000 in
theorem dapps_walk (va vl : Value) (a : Ln) (L : List Dr) (w : World) (ha : RdS w va a) (hv : RdDr w vl L) :
    Calls Try.prog 13 #[va, vl] w fun e w' => e = .returned (.bool true) ∧ Below w.heap.size w w' := by
  have HA := Kp.mk ha
  have HV := Kp.mk hv
  have HFA := Kp.mk (fun w h => few51_any va a w h)
  have HLA := Kp.mk (fun h => (few51_len (l := a) h).1)
  have HTL := Kp.mk (trL_len L)
  have HAP := Kp.mk (fun v w h1 h2 h3 => dapply_any va v a L w h1 h2 h3)
  have HRP := Kp.mk (fun v w h1 h2 h3 => rapply_any va v a L w h1 h2 h3)
  have HTU := Kp.mk (fun v w h1 h2 => dturn_any v L w h1 h2)
  have HALN := Kp.mk (show (apL a L).length ≤ L.length by unfold apL; split; exact toL_len L; simp)
  obtain ⟨al, cl, rfl, _, hc4, -⟩ := hv
  have hl9 : L.length ≤ 9223372036854775807 := by unfold maxLen at hc4; omega
  generalize hn : L.length = n at *
  have HN := Kp.mk hn
  generalize few51 a = ra at *
  clear hn ha
  cases ra
  · go_enter Try.func13, Try.ntmps13
    go_wp2_with fail
    refine (HFA.out _ HA.out).mono ?_
    rintro e w1 ⟨rfl, hb1⟩
    have HB1 := Kp.mk hb1
    clear hb1
    go_wp2_with fail
    refine (lives51_any _).mono ?_
    rintro e w2 ⟨rfl, hb2⟩
    go_wp2_with fail
    go_ret
    exact ⟨rfl, HB1.out.trans (hb2.mono HB1.out.size)⟩
  · have hal := HLA.out rfl
    by_cases hfar : 60 < n
    · have q0 : (60 : Int) < (n : Int) := by omega
      go_enter Try.func13, Try.ntmps13
      go_wp2_with fail
      refine (HFA.out _ HA.out).mono ?_
      rintro e w1 ⟨rfl, hb1⟩
      have HB1 := Kp.mk hb1
      clear hb1
      go_wp2_with fail
      refine (lives51_any _).mono ?_
      rintro e w2 ⟨rfl, hb2⟩
      go_wp2_with fail
      go_ret
      exact ⟨rfl, HB1.out.trans (hb2.mono HB1.out.size)⟩
    · have q0 : ¬ (60 : Int) < (n : Int) := by omega
      go_enter Try.func13, Try.ntmps13
      go_wp2_with fail
      refine (HFA.out _ HA.out).mono ?_
      rintro e w1 ⟨rfl, hb1⟩
      have HB1 := Kp.mk hb1
      have HO1 := Kp.mk (World.ownsRow_lit (base := w.heap.size) (e := 100) (size := 2) w1 #[] 0 hb1.size (by unfold maxLen; omega) rfl)
      have HB1A := Kp.mk (HB1.out.alloc HB1.out.size (.cells #[] 100))
      clear hb1
      go_wp2_with fail
      go_loopw [5, 27] (fun ov i wr => ∃ k : Nat, k ≤ n ∧ i = .int .i64 k ∧ wr.ownsRow w.heap.size 100 2 ov k (drL (L.take k)) ∧ Below w.heap.size w wr) (fun _ i _ => n - (intOf i).toNat)
      case atStart => exact ⟨0, Nat.zero_le _, rfl, by rw [List.take_zero]; exact HO1.out, HB1A.out⟩
      case round =>
        obtain ⟨k, hk, rfl, ho, hb⟩ := hrel
        have HO := Kp.mk ho
        have HB := Kp.mk hb
        clear ho hb HO1 HB1A HB1
        by_cases hlt : k < n
        · have hkl : k < L.length := by have := HN.out; omega
          obtain ⟨g, o, rfl, hg, d⟩ := rddr_cells (HV.out.below HB.out) (by omega)
          obtain ⟨c1, c2⟩ := d k hkl
          have E1 := Kp.mk (drL_take hkl)
          have q1 : (k : Int) < (n : Int) := by omega
          clear d
          generalize L[k]'_ = p at *
          obtain ⟨s, t⟩ := p
          dsimp only at c1 c2 E1
          clear hkl
          have hA := (Below.refl wr.heap.size wr).alloc (Nat.le_refl _) (.cells #[.int .i64 s, .string t] 99)
          have HOA := Kp.mk (own_kd HO.out (w' := wr.alloc (.cells #[.int .i64 s, .string t] 99)) fun g _ hg => hA.block g hg)
          have HBA := Kp.mk (HB.out.alloc HB.out.size (.cells #[.int .i64 s, .string t] 99))
          have hbx := heap_alloc_new wr (.cells #[.int .i64 s, .string t] 99)
          have b0 := blk_cell (i := 0) hbx rfl
          have b1 := blk_cell (i := 1) hbx rfl
          have hlen0 : (k + 1) * 24 ≤ 140737488355328 := by omega
          have hmx0 : k + 1 ≤ maxLen := by unfold maxLen; omega
          have hsz0 := HBA.out.size
          obtain ⟨oa, oc, rfl⟩ := own_lenH HO.out
          clear hA hbx
          by_cases ht : 100 < t.size
          · have q3 : (100 : Int) < (t.size : Int) := by omega
            go_wp2_with fail
            refine (lives51_any _).mono ?_
            rintro e w2 ⟨rfl, hb2⟩
            go_wp2_with fail
            go_ret
            exact ⟨rfl, HBA.out.trans (hb2.mono HBA.out.size)⟩
          · have q3 : ¬ (100 : Int) < (t.size : Int) := by omega
            go_wp2_with (at_builtin; refine app_any rfl _ _ _ _ rfl Try.underlying93 _ _ _ Try.infoDq rfl (by omega) w.heap.size _ _ _ rfl HOA.out #[.int .i64 s, .string t] rfl (fun u hu => by simp at hu; rcases hu with rfl | rfl <;> rfl) (wr.heap.size + 1) (by simp) rfl hlen0 hmx0 hsz0 ?_; intro g' cap' w' h1 h2 h3; have G1 := Kp.mk h1; have G2 := Kp.mk (grown_bel HOA.out hsz0 h2); clear h1 h2 h3)
            go_wp2_with fail
            go_roundw
            case rel => exact ⟨k + 1, by omega, by go_num, by rw [E1.out]; exact G1.out, HBA.out.trans G2.out⟩
            case measure => simp [intOf] <;> omega
        · have hkn : k = n := by omega
          subst hkn
          have HTK := Kp.mk (show L.take k = L from List.take_of_length_le (by have := HN.out; omega))
          rw [HTK.out] at HO
          have HRW := Kp.mk (rddr_own (l := L) (by rw [HN.out]; exact HO.out))
          obtain ⟨oa, oc, rfl⟩ := own_lenH HO.out
          clear q0
          go_wp2_with fail
          refine (HAP.out _ _ (HA.out.below HB.out) (HV.out.below HB.out) (by omega) (by omega)).mono ?_
          rintro e w2 ⟨v2, rfl, hx2, hb2⟩
          have HX2 := Kp.mk hx2
          have HB2 := Kp.mk (HB.out.trans (hb2.mono HB.out.size))
          have HR2 := Kp.mk (HRW.out.below hb2)
          clear hx2 hb2
          go_wp2_with fail
          refine (HRP.out _ _ (HA.out.below HB2.out) HR2.out (by omega) (by omega)).mono ?_
          rintro e w3 ⟨v3, rfl, hx3, hb3⟩
          have HX3 := Kp.mk hx3
          have HY3 := Kp.mk (HX2.out.below hb3)
          have HB3 := Kp.mk (HB2.out.trans (hb3.mono HB2.out.size))
          clear hx3 hb3
          go_wp2_with fail
          refine (HTU.out _ _ (HV.out.below HB3.out) (by omega)).mono ?_
          rintro e w4 ⟨v4, rfl, ho4, hb4⟩
          have HX4 := Kp.mk (HX3.out.below hb4)
          have HY4 := Kp.mk (HY3.out.below hb4)
          have HB4 := Kp.mk (HB3.out.trans (hb4.mono HB3.out.size))
          have HT4 := Kp.mk (rddr_own ho4)
          rw [HTL.out] at ho4
          obtain ⟨a4, c4, rfl⟩ := own_lenH ho4
          have z1 : ((k : Int) != (k : Int)) = false := by simp
          clear ho4 hb4
          go_wp2_with fail
          go_loopw [66] (fun i wr => ∃ j : Nat, j ≤ k ∧ i = .int .i64 j ∧ Below w4.heap.size w4 wr) (fun i _ => k - (intOf i).toNat)
          case atStart => exact ⟨0, Nat.zero_le _, rfl, Below.refl _ _⟩
          case round =>
            obtain ⟨j, hj, rfl, hb⟩ := hrel
            have HBW := Kp.mk hb
            clear hb
            by_cases hlt2 : j < k
            · have hjl : j < L.length := by have := HN.out; omega
              obtain ⟨hjt, hje⟩ := trL_at hjl
              have HBZ := Kp.mk (HB4.out.trans (HBW.out.mono HB4.out.size))
              obtain ⟨g, o, rfl, hg, d⟩ := rddr_cells (HT4.out.below HBW.out) (by omega)
              obtain ⟨c1, c2⟩ := d j hjt
              obtain ⟨g2, o2, rfl, hg2, d2⟩ := rddr_cells (HV.out.below HBZ.out) (by omega)
              obtain ⟨c3, c5⟩ := d2 j hjl
              rw [hje] at c1 c2
              have q1 : (j : Int) < (k : Int) := by omega
              have q0 : (0 : Int) ≤ (j : Int) := by omega
              clear d d2 hje hjt
              generalize L[j]'_ = p at *
              obtain ⟨s, t⟩ := p
              dsimp only at c1 c2 c3 c5
              clear hjl
              have hA := (Below.refl wr.heap.size wr).alloc (Nat.le_refl _) (.cells #[.int .i64 (trI s), .string t] 99)
              have hbx := heap_alloc_new wr (.cells #[.int .i64 (trI s), .string t] 99)
              have b0 := blk_cell (i := 0) hbx rfl
              have b1 := blk_cell (i := 1) hbx rfl
              have y3 := (hA.cell (p := ⟨g2, o2 + j * 2, none⟩) hg2).trans c3
              have y5 := (hA.cell (p := ⟨g2, o2 + j * 2 + 1, none⟩) hg2).trans c5
              have HBA := Kp.mk (HBW.out.alloc HBW.out.size (.cells #[.int .i64 (trI s), .string t] 99))
              have t1 : (t.toList != t.toList) = false := by simp
              have t2 : (t.toList == t.toList) = true := by simp
              clear hA hbx
              by_cases s1 : s = 1
              · subst s1
                rw [show trI 1 = 2 from rfl] at *
                go_upto_region 19 with fail
                go_quiet (fail)
                go_wp2_with fail
                go_roundw
                case rel => exact ⟨j + 1, by omega, by go_num, HBA.out.trans ⟨rfl, rfl, rfl, Nat.le_refl _, fun _ _ => rfl⟩⟩
                case measure => simp [intOf] <;> omega
              · by_cases s2 : s = 2
                · subst s2
                  rw [show trI 2 = 1 from rfl] at *
                  go_upto_region 19 with fail
                  go_quiet (fail)
                  go_wp2_with fail
                  go_roundw
                  case rel => exact ⟨j + 1, by omega, by go_num, HBA.out.trans ⟨rfl, rfl, rfl, Nat.le_refl _, fun _ _ => rfl⟩⟩
                  case measure => simp [intOf] <;> omega
                · have hs : trI s = s := by unfold trI; rw [if_neg s1, if_neg s2]
                  generalize trI s = r at *
                  subst hs
                  have e1 : (r == 1) = false := by simp [s1]
                  have e2 : (r == 2) = false := by simp [s2]
                  have e3 : (r != r) = false := by simp
                  have e4 : (r == r) = true := by simp
                  go_upto_region 19 with fail
                  go_quiet (fail)
                  go_wp2_with fail
                  go_roundw
                  case rel => exact ⟨j + 1, by omega, by go_num, HBA.out.trans ⟨rfl, rfl, rfl, Nat.le_refl _, fun _ _ => rfl⟩⟩
                  case measure => simp [intOf] <;> omega
            · have HBZ := Kp.mk (HB4.out.trans (HBW.out.mono HB4.out.size))
              have HX5 := Kp.mk (HX4.out.below HBW.out)
              have HY5 := Kp.mk (HY4.out.below HBW.out)
              have z9 : (apR a L == apR a L) = true := by simp
              generalize apR a L = R at *
              go_wp2_with fail
              refine (rssame_eq _ _ (apL a L) _ HY5.out HX5.out (by have := HALN.out; omega)).mono ?_
              rintro e w6 ⟨rfl, hb6⟩
              have HB6 := Kp.mk (HBZ.out.trans (hb6.mono HBZ.out.size))
              clear hb6
              go_wp2_with fail
              refine (lives51_any _).mono ?_
              rintro e w10 ⟨rfl, hb10⟩
              go_wp2_with fail
              go_ret
              exact ⟨rfl, HB6.out.trans (hb10.mono HB6.out.size)⟩
theorem dapps_arg (v0 v1 : Value) (w : World) (h0 : Arg Try.prog w 84 v0) (h1 : Arg Try.prog w 91 v1) :
    Calls Try.prog 13 #[v0, v1] w fun e w' => e = .returned (.bool true) ∧ Below w.heap.size w w' := by
  obtain ⟨a, ha, -⟩ := h0.strs Try.underlying84 Try.underlying9 Try.fcellsDS
  obtain ⟨L, hv, -⟩ := dr_arg v1 w h1
  exact dapps_walk v0 v1 a L w ha hv
end Go.Proofs.Ytnpolkpofaamlaa
