/- Lengths (layer 18): Of, the document's; Set on both sides. -/
import Derived.Test.YtkfpioadimkogaaGreatDoorLed
import Derived.Test.YtkfpioadimkogaaGreatDoorHdi
import Derived.Test.YtkfpioadimkogaaGreatDoorRta
namespace Go.Proofs.YtkfpioadimkogaaGreatDoor
open Go.RowKit Go.Shelf
set_option linter.unusedVariables false
set_option linter.unusedSimpArgs false

theorem lnK_pos (s : ByteArray) : 0 < (lnK s).length := by rw [lnK_end, List.length_append]; simp
theorem lnR_none {L : List ByteArray} {k : Nat} (h : lnAt L k = none) : lnR L = (0, false, 14) := by
  unfold lnR
  rw [lnAt_none h]
theorem lnR_end {L : List ByteArray} {o : Option Int} (h : lnAt L L.length = some o) (h2 : L.length = 0 ↔ o = none) : lnR L = ((ofS o).1, decide (0 < L.length), 0) := by
  unfold lnR
  rw [h]
  cases o with
  | none =>
    have := h2.2 rfl
    rw [decide_eq_false (by omega)]; rfl
  | some n =>
    have h3 : L.length ≠ 0 := fun e => by cases h2.1 e
    rw [decide_eq_true (by omega)]; rfl
theorem own_some {w : World} {B : Nat} {e : TypeId} {sz n : Nat} {v : Value} {xs : List Value} (h : w.ownsRow B e sz v n xs) (hn : 0 < n) : ∃ g c, v = .slice (some ⟨g, 0, none⟩) n c := by
  rcases h.2 with ⟨_, h9⟩ | ⟨g, cap, cur, rfl, _⟩
  · omega
  · exact ⟨g, cap, rfl⟩
theorem own_cellsS {w : World} {B g c : Nat} {L : List ByteArray} (h : w.ownsRow B 9 1 (.slice (some ⟨g, 0, none⟩) L.length c) L.length (svH L)) : ∀ (j : Nat) (hj : j < L.length), w.cell? ⟨g, 0 + j, none⟩ = some (.string L[j]) := fun j hj => by
  obtain ⟨b, o, he, _, dd⟩ := rds_cells (rds_own h) (by omega)
  cases he
  exact dd j hj
set_option maxRecDepth 100000 in
set_option maxHeartbeats 4000000 in
theorem rlenof_any (v : Value) (l : List Fld) (w : World) (hv : RdF w v l) (hz : ∀ p ∈ l, FldSm p) (hl : l.length ≤ 10000) : Calls Tryz.prog 122 #[v] w (RetLn l w) := by
  have HV := Kp.mk hv
  have HAL := Kp.mk (fun w hv => rhall_any v l nmCL w hv hz (by omega) (by decide))
  have hal := hAll_len l nmCL
  have HSM := Kp.mk (hAll_sm nmCL hz)
  have HR := Kp.mk (show lenF l = lnR (lnV (hAll l nmCL)) from rfl)
  unfold RetS at HAL
  unfold RetLn
  obtain ⟨ad, cap, rfl, -, -, -⟩ := hv
  generalize lenF l = R at *
  generalize hAll l nmCL = V at *
  clear hz
  go_enter Tryz.func122, Tryz.ntmps122
  go_wp2_with fail
  refine (HAL.out _ HV.out).mono ?_
  rintro e w1 ⟨u, rfl, ho, hb⟩
  have HRD := Kp.mk (rds_own ho)
  obtain ⟨a1, c1, rfl⟩ := own_lenH ho
  have B1 := Kp.mk hb
  clear ho hb HAL
  have HO0 := Kp.mk (World.ownsRow_lit (base := w1.heap.size) (e := 9) (size := 1) w1 #[] 0 (Nat.le_refl _) (by unfold maxLen; omega) rfl)
  have HB0 := Kp.mk ((Below.refl w1.heap.size w1).alloc (Nat.le_refl _) (.cells #[] 9))
  have HLZ := Kp.mk (fun k => lnP_len HSM.out k)
  go_wp2_with fail
  go_loopw [6, 7] (fun ov i wr => ∃ k : Nat, k ≤ V.length ∧ i = .int .i64 k ∧ wr.ownsRow w1.heap.size 9 1 ov (lnP V k).length (svH (lnP V k)) ∧ Below w1.heap.size w1 wr) (fun _ i _ => V.length - (intOf i).toNat)
  case atStart => exact ⟨0, by omega, rfl, HO0.out, HB0.out⟩
  case round =>
    obtain ⟨k, hk, rfl, hown, hb⟩ := hrel
    obtain ⟨av, cv, rfl⟩ := own_lenH hown
    have HOW := Kp.mk hown
    have HB := Kp.mk hb
    have hsz := hb.size
    clear hown hb
    by_cases hlt : k < V.length
    · obtain ⟨g, o, rfl, hgl, dd⟩ := rds_cells (HRD.out.below HB.out) (by omega)
      have d1 := dd k hlt
      have m1 := HSM.out V[k] (List.getElem_mem hlt)
      have q0 : (0 : Int) ≤ (k : Int) := by omega
      have q1 : (k : Int) < (V.length : Int) := by omega
      have HST := Kp.mk (lnP_step hlt)
      have hlk := HLZ.out k
      have hlk2 : k * (100000 + 1) ≤ 10000 * (100000 + 1) := Nat.mul_le_mul_right _ (by omega)
      clear dd
      generalize V[k] = s at *
      have PA := Kp.mk (fun w => rparts18_any s w (by omega))
      unfold RetS at PA
      have hp0 := lnK_pos s
      have hp1 := lnK_len s
      generalize lnK s = C at *
      generalize lnP V k = P at *
      have hlen : (P.length + C.length) * 16 ≤ 140737488355328 := by omega
      have hmx : P.length + C.length ≤ maxLen := by unfold maxLen; omega
      go_wp2_with fail
      refine (PA.out _).mono ?_
      rintro e w3 ⟨u, rfl, ho, hb⟩
      obtain ⟨gu, cu, rfl⟩ := own_some ho hp0
      have HC := Kp.mk (own_cellsS ho)
      have HO3 := Kp.mk (own_bel HOW.out hb)
      have B3 := Kp.mk (HB.out.trans (hb.mono HB.out.size))
      have hsz3 := B3.out.size
      clear ho hb d1
      go_wp2_with (at_builtin; refine app_strs rfl _ _ _ _ rfl Tryz.underlying55 _ Tryz.infoSH rfl w1.heap.size _ P.length _ rfl HO3.out gu 0 cu C rfl HC.out hlen hmx hsz3 ?_; intro v1 w4 h1 h2; obtain ⟨a4, c4, rfl⟩ := own_lenH h1; have G1 := Kp.mk h1; have G2 := Kp.mk (B3.out.grown h2 hsz3 fun k hk => (HO3.out.lt k hk).1); clear h1 h2)
      go_roundw
      case rel =>
        refine ⟨k + 1, by omega, by go_num, ?_, G2.out⟩
        rw [HST.out, List.length_append, show svH (P ++ C) = svH P ++ svH C from List.flatMap_append]
        exact G1.out
      case measure => simp [intOf]; omega
    · have HK := Kp.mk (lnV_all (V := V) (k := k) (by omega))
      have hlk := HLZ.out k
      have hlk2 : k * (100000 + 1) ≤ 10000 * (100000 + 1) := Nat.mul_le_mul_right _ (by omega)
      rw [HK.out] at HOW hlk ⊢
      have HLM := Kp.mk (fun x (h : x ∈ lnV V) => lnV_mem HSM.out h)
      generalize lnV V = L at *
      have HRL := Kp.mk (rds_own HOW.out)
      have BW := Kp.mk (B1.out.trans (HB.out.mono B1.out.size))
      have hLb : L.length ≤ 1000010000 := by omega
      clear HOW HK hlk hlk2 HLZ
      go_wp2_with fail
      go_loop [8, 9] (fun nv i => ∃ (j : Nat) (o : Option Int), j ≤ L.length ∧ i = .int .i64 j ∧ nv = .int .i64 (ofS o).1 ∧ lnAt L j = some o ∧ (j = 0 ↔ o = none)) (fun _ i => L.length - (intOf i).toNat)
      case atStart => exact ⟨0, none, by omega, rfl, rfl, rfl, by simp⟩
      case round =>
        obtain ⟨j, o, hj, rfl, rfl, hat, hjo⟩ := hrel
        have HAT := Kp.mk hat
        have HJO := Kp.mk hjo
        clear hat hjo
        by_cases hjl : j < L.length
        · obtain ⟨g, o9, rfl, hgl, dd⟩ := rds_cells HRL.out (by omega)
          have d1 := dd j hjl
          have m1 := HLM.out L[j] (List.getElem_mem hjl)
          have q0 : (0 : Int) ≤ (j : Int) := by omega
          have q1 : (j : Int) < (L.length : Int) := by omega
          have qw : IntKind.i64.wrap ((j : Int) + 1) = (j : Int) + 1 := wrap_small _ (by omega) (by omega)
          have HST := Kp.mk (lnAt_step hjl)
          rw [HAT.out] at HST
          clear dd
          generalize L[j] = x at *
          have HD := Kp.mk (fun w => ref_number_10_any x 2147483647 w (by unfold maxLen; omega) (by omega) (by omega))
          have T1 := Kp.mk (fun q => lnS_bad (o := o) (x := x) q)
          have T2 := Kp.mk (fun q => lnS_first (x := x) q)
          have T3 := Kp.mk (fun m q r => lnS_same (x := x) (m := m) q r)
          have T4 := Kp.mk (fun m r => lnS_other (x := x) (m := m) r)
          generalize numE 10 x 2147483647 = de at *
          generalize numV 10 x 2147483647 = dn at *
          by_cases hde : de = 0
          · subst hde
            cases o with
            | none =>
              have q2 : ¬ (0 : Int) < (j : Int) := by have := HJO.out.2 rfl; omega
              have HN := Kp.mk (HST.out.trans (T2.out rfl))
              simp only [ofS]
              go_wp2_with fail
              refine (HD.out _).mono ?_
              rintro e w5 ⟨rfl, rfl⟩
              go_wp2_with fail
              go_round
              case rel => exact ⟨j + 1, some dn, by omega, by go_num, rfl, HN.out, by simp⟩
              case measure => simp [intOf]; omega
            | some m =>
              have hj0 : j ≠ 0 := fun e => by cases HJO.out.1 e
              have q2 : (0 : Int) < (j : Int) := by omega
              simp only [ofS]
              by_cases hm : dn = m
              · have HN := Kp.mk (HST.out.trans (T3.out m rfl hm))
                subst hm
                go_wp2_with fail
                refine (HD.out _).mono ?_
                rintro e w5 ⟨rfl, rfl⟩
                go_wp2_with fail
                go_round
                case rel => exact ⟨j + 1, some dn, by omega, by go_num, rfl, HN.out, by simp⟩
                case measure => simp [intOf]; omega
              · have HN := Kp.mk (HR.out.trans (lnR_none (HST.out.trans (T4.out m hm))))
                have hm2 : (dn != m) = true := by rw [bne_iff_ne]; exact hm
                go_wp2_with fail
                refine (HD.out _).mono ?_
                rintro e w5 ⟨rfl, rfl⟩
                go_wp2_with fail
                go_ret3
                exact ⟨by rw [HN.out] <;> rfl, BW.out⟩
          · have HN := Kp.mk (HR.out.trans (lnR_none (HST.out.trans (T1.out hde))))
            have hd2 : (de != 0) = true := by rw [bne_iff_ne]; exact hde
            go_wp2_with fail
            refine (HD.out _).mono ?_
            rintro e w5 ⟨rfl, rfl⟩
            go_wp2_with fail
            go_ret3
            exact ⟨by rw [HN.out] <;> rfl, BW.out⟩
        · obtain rfl : j = L.length := by omega
          have HN := Kp.mk (HR.out.trans (lnR_end HAT.out HJO.out))
          have hi : decide ((0 : Int) < (L.length : Int)) = decide (0 < L.length) := by simp
          have HI := Kp.mk hi
          clear hi
          generalize (ofS o).1 = n1 at *
          go_wp2_with fail
          go_ret3
          exact ⟨by rw [HN.out] <;> simp, BW.out⟩
end Go.Proofs.YtkfpioadimkogaaGreatDoor
