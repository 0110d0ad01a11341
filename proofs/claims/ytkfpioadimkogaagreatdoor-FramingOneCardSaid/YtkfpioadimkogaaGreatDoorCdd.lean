/- Codings (layer 19): the same, the document's. -/
import Derived.Test.YtkfpioadimkogaaGreatDoorCdc
import Derived.Test.YtkfpioadimkogaaGreatDoorPrk
namespace Go.Proofs.YtkfpioadimkogaaGreatDoor
open Go.RowKit
set_option linter.unusedVariables false
set_option linter.unusedSimpArgs false

def gkC (L : List ByteArray) (k : Nat) : Prop := ∀ (j : Nat) (h : j < L.length), j < k → goodC L.length j (codOf L[j]) = true
theorem gkC_all {L : List ByteArray} {k : Nat} (hk : L.length ≤ k) (h : gkC L k) : allC (codsOf L) = true := by
  unfold codsOf
  rw [allC_iff]
  intro j hj
  rw [List.length_map] at hj
  rw [List.getElem_map]
  have h9 := h j hj (by omega)
  generalize codOf L[j] = c at h9 ⊢
  rw [List.length_map]
  exact h9
theorem gkC_hit {L : List ByteArray} {k : Nat} (h : k < L.length) (hf : goodC L.length k (codOf L[k]) = false) : allC (codsOf L) = false := by
  unfold codsOf
  refine allC_hit (j := k) (by rw [List.length_map]; exact h) ?_
  rw [List.getElem_map]
  generalize codOf L[k] = c at hf ⊢
  rw [List.length_map]
  exact hf
theorem prm_err (x : ByteArray) : (prmAll x).1 = 0 ∨ (prmAll x).1 = 2 ∨ (prmAll x).1 = 3 := by
  unfold prmAll
  split
  · exact .inr (.inl rfl)
  · split
    · exact .inr (.inr rfl)
    · split
      · exact .inr (.inr rfl)
      · exact .inl rfl
set_option maxRecDepth 100000 in
set_option maxHeartbeats 4000000 in
theorem rchunk_any (vl : Value) (l : List Fld) (w : World) (hv : RdF w vl l) (hF : FewF l) : Calls Tryz.prog 121 #[vl] w fun e w' => e = .returned (.tuple #[.bool (chF l).1, .int .i64 (chF l).2]) ∧ Below w.heap.size w w' := by
  have hvz : (teV l nmTE).size ≤ 50100 := hF.comb nmTE
  have hln := splL_len (teV l nmTE)
  have HZ := Kp.mk (fun x (h : x ∈ splL (teV l nmTE)) => show x.size ≤ 100000 by have h1 := (splL_mem h).2; omega)
  have HCV := Kp.mk (show hJoin (hAll l nmTE) = teV l nmTE from rfl)
  have HR := Kp.mk (show chF l = chR (hIs l nmTE) (splB (teV l nmTE)) (codsOf (splL (teV l nmTE))) from rfl)
  have HV := Kp.mk hv
  have HS := Kp.mk hF.sm
  have hl5 := hF.len
  clear hF hv
  go_enter Tryz.func121, Tryz.ntmps121
  go_wp2_with fail
  refine (rhcomb_any vl l nmTE _ HV.out HS.out (by omega) (by decide)).mono ?_
  rintro e w1 ⟨rfl, hb1⟩
  rw [HCV.out]
  have HB1 := Kp.mk hb1
  clear hb1
  generalize teV l nmTE = v at *
  generalize hIs l nmTE = hi at *
  go_wp2_with fail
  refine (rsplit_any v _ (by omega)).mono ?_
  rintro e w2 ⟨u, rfl, ho, hb2⟩
  have HB2 := Kp.mk (HB1.out.trans (hb2.mono HB1.out.size))
  have HRS := Kp.mk (rds_own ho)
  obtain ⟨a, c, rfl⟩ := own_lenH ho
  clear ho hb2
  generalize splL v = L at *
  have hLs : L.length ≤ 100000 := by omega
  generalize splB v = ob at *
  have HCL := Kp.mk (cods_len L)
  cases hi
  · have HX := Kp.mk (HR.out.trans chR_no)
    go_wp2_with fail
    go_ret2
    exact ⟨by rw [HX.out]; rfl, HB2.out⟩
  · cases ob
    · have HX := Kp.mk (HR.out.trans (chR_bad (.inl rfl)))
      go_wp2_with fail
      go_ret2
      exact ⟨by rw [HX.out]; rfl, HB2.out⟩
    · rcases Nat.eq_zero_or_pos L.length with h0 | h0
      · have HX := Kp.mk (HR.out.trans (chR_bad (.inr (.inl (by rw [HCL.out]; exact h0)))))
        have t0 : ((L.length : Int) == 0) = true := by rw [h0]; rfl
        go_wp2_with fail
        go_ret2
        exact ⟨by rw [HX.out]; rfl, HB2.out⟩
      · have t0 : ((L.length : Int) == 0) = false := by rw [beq_eq_false_iff_ne]; omega
        have hw1 : IntKind.i64.wrap ((L.length : Int) - 1) = (L.length : Int) - 1 := wrap_idC (by omega) (by omega)
        have HBD := Kp.mk (fun (h : allC (codsOf L) = false) => HR.out.trans (chR_bad (.inr (.inr h))))
        go_wp2_with fail
        go_loopw [8] (fun i wr => ∃ k : Nat, k ≤ L.length ∧ i = .int .i64 k ∧ gkC L k ∧ Below w2.heap.size w2 wr) (fun i _ => L.length - (intOf i).toNat)
        case atStart => exact ⟨0, by omega, rfl, fun j _ h => by omega, Below.refl _ _⟩
        case round =>
          obtain ⟨k, hk, rfl, hok, hb⟩ := hrel
          have HOK := Kp.mk hok
          have HB := Kp.mk hb
          have HBW := Kp.mk (HB2.out.trans (hb.mono HB2.out.size))
          clear hok hb
          by_cases hlt : k < L.length
          · obtain ⟨g, o, rfl, hgl, d0⟩ := rds_cells (HRS.out.below HB.out) (by omega)
            have c1 := d0 k hlt
            have m1 := HZ.out L[k] (List.getElem_mem hlt)
            have q0 : (0 : Int) ≤ (k : Int) := by omega
            have q1 : (k : Int) < (L.length : Int) := by omega
            have HHit := Kp.mk (gkC_hit hlt)
            have HN := Kp.mk (fun (ht : goodC L.length k (codOf L[k]) = true) => show gkC L (k + 1) from fun j hj h => by
              by_cases hjk : j = k
              · subst hjk; exact ht
              · exact HOK.out j hj (by omega))
            clear d0
            generalize L[k] = x at *
            have HP := Kp.mk (fun W => rparse_any x W (by omega))
            have HER := Kp.mk (prm_err x)
            have HC := Kp.mk (show codOf x = ((prmAll x).2.1, (((prmAll x).2.2.length : Int) == 0), ((prmAll x).1 == 0)) from rfl)
            unfold RPPost at HP
            generalize codOf x = cx at *
            generalize prmAll x = pm at *
            obtain ⟨er, wd, pl⟩ := pm
            try dsimp only at HC HER
            have HC2 := Kp.mk HC.out
            obtain ⟨lb, hlb⟩ : ∃ lb, decide (k + 1 = L.length) = lb := ⟨_, rfl⟩
            have t1 : ((k : Int) == (L.length : Int) - 1) = lb := by
              rw [← hlb, Bool.eq_iff_iff, beq_iff_eq, decide_eq_true_iff]
              omega
            have HLB := Kp.mk hlb
            have HG := Kp.mk (show goodC L.length k cx = ((er == 0) && ((wd.toList == [99, 104, 117, 110, 107, 101, 100]) == lb && (!lb || ((pl.length : Int) == 0)))) by rw [HC2.out]; unfold goodC; rw [HLB.out]; rfl)
            clear hlb HC HC2
            go_wp2_with fail
            refine (HP.out _).mono ?_
            rintro e w4 ⟨u, rfl, ho, hb4⟩
            try dsimp only at ho
            obtain ⟨a9, c9, rfl⟩ := own_lenH ho
            have HB4 := Kp.mk (HB.out.trans (hb4.mono HB.out.size))
            have HB4W := Kp.mk (HBW.out.trans (hb4.mono HBW.out.size))
            clear hb4 ho c1
            generalize pl.length = pn at *
            generalize hg : goodC L.length k cx = gb at *
            rcases HER.out with h | h | h
            · subst h
              cases lb
              · cases hc : (wd.toList == [99, 104, 117, 110, 107, 101, 100])
                · have HN2 := Kp.mk (HN.out (by rw [HG.out, hc]; rfl))
                  have n1 : ¬ wd.toList = [99, 104, 117, 110, 107, 101, 100] := beq_eq_false_iff_ne.1 hc
                  go_wp2_with fail
                  go_roundw
                  case rel => exact ⟨k + 1, by omega, by go_num, HN2.out, HB4.out⟩
                  case measure => simp [intOf]; omega
                · have HX := Kp.mk (HBD.out (HHit.out (by rw [HG.out, hc]; rfl)))
                  have n1 : wd.toList = [99, 104, 117, 110, 107, 101, 100] := beq_iff_eq.1 hc
                  go_wp2_with fail
                  go_ret2
                  exact ⟨by rw [HX.out]; rfl, HB4W.out⟩
              · cases hc : (wd.toList == [99, 104, 117, 110, 107, 101, 100])
                · have HX := Kp.mk (HBD.out (HHit.out (by rw [HG.out, hc]; rfl)))
                  have n1 : ¬ wd.toList = [99, 104, 117, 110, 107, 101, 100] := beq_eq_false_iff_ne.1 hc
                  go_wp2_with fail
                  go_ret2
                  exact ⟨by rw [HX.out]; rfl, HB4W.out⟩
                · have n1 : wd.toList = [99, 104, 117, 110, 107, 101, 100] := beq_iff_eq.1 hc
                  rcases Nat.eq_zero_or_pos pn with hp | hp
                  · have HN2 := Kp.mk (HN.out (by rw [HG.out, hc, hp]; rfl))
                    have n2 : ¬ (0 : Int) < (pn : Int) := by omega
                    clear hp
                    go_wp2_with fail
                    go_roundw
                    case rel => exact ⟨k + 1, by omega, by go_num, HN2.out, HB4.out⟩
                    case measure => simp [intOf]; omega
                  · have hp0 : ((pn : Int) == 0) = false := by rw [beq_eq_false_iff_ne]; omega
                    have HX := Kp.mk (HBD.out (HHit.out (by rw [HG.out, hc, hp0]; rfl)))
                    have n2 : (0 : Int) < (pn : Int) := by omega
                    clear hp hp0
                    go_wp2_with fail
                    go_ret2
                    exact ⟨by rw [HX.out]; rfl, HB4W.out⟩
            · subst h
              have HX := Kp.mk (HBD.out (HHit.out (by rw [HG.out]; rfl)))
              go_wp2_with fail
              go_ret2
              exact ⟨by rw [HX.out]; rfl, HB4W.out⟩
            · subst h
              have HX := Kp.mk (HBD.out (HHit.out (by rw [HG.out]; rfl)))
              go_wp2_with fail
              go_ret2
              exact ⟨by rw [HX.out]; rfl, HB4W.out⟩
          · have HAL := Kp.mk (gkC_all (by omega) HOK.out)
            by_cases h1 : 1 < L.length
            · have HX := Kp.mk (HR.out.trans (chR_many (by rw [HCL.out]; exact h1) HAL.out))
              have q9 : (1 : Int) < (L.length : Int) := by omega
              go_wp2_with fail
              go_ret2
              exact ⟨by rw [HX.out]; rfl, HBW.out⟩
            · have HX := Kp.mk (HR.out.trans (chR_one (by rw [HCL.out]; omega) HAL.out))
              have q9 : ¬ (1 : Int) < (L.length : Int) := by omega
              go_wp2_with fail
              go_ret2
              exact ⟨by rw [HX.out]; rfl, HBW.out⟩
theorem trP_step {L : List ByteArray} {k : Nat} (h : k < L.length) : (codP L (k + 1)).any isTr = ((codP L k).any isTr || isTr (codOf L[k])) := by
  rw [codP_step h, List.any_append]
  simp
end Go.Proofs.YtkfpioadimkogaaGreatDoor
