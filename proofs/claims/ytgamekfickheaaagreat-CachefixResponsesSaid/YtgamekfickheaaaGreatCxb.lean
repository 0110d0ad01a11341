/- What is said to caches of another version (layer 31): the program's Request and Response (bin/mkcxb.py). -/
import Derived.Test.YtgamekfickheaaaGreatCxa
import Derived.Deep.DeepCutAuto
namespace Go.Proofs.YtgamekfickheaaaGreat
open Go.RowKit
set_option linter.unusedVariables false
set_option linter.unusedSimpArgs false

set_option maxRecDepth 100000 in
set_option maxHeartbeats 1000000 in
theorem cxadded_any (v : Value) (l : List Fld) (w : World) (hv : RdF w v l) (hl : l.length ≤ 10000) :
    Calls Tryz.prog 12 #[v] w fun e w' => ∃ (bx : Nat) (u : Value), e = .returned (.tuple #[.func (.func 29) #[] #[.pointer (some ⟨bx, 0, none⟩)], .func (.func 30) #[] #[.pointer (some ⟨bx, 0, none⟩)]]) ∧ MX bx u l w' ∧ w.heap.size ≤ bx ∧ Below w.heap.size w w' := by
  have HC := Kp.mk (cloneX_any v l w hv hl)
  have hmf : ∀ (fn : Fn) (first cap : Array Value) (w : World), (Instr.makeFunc fn first cap).run Tryz.prog w = .ok (.func fn first cap) w := fun _ _ _ _ => rfl
  clear hv
  go_enter Tryz.func12, Tryz.ntmps12
  go_wp2_with fail
  refine HC.out.mono ?_
  rintro e w1 ⟨u, rfl, ho, hb⟩
  have HX := Kp.mk (show MX w1.heap.size u l (w1.alloc (.cells #[u] 22)) from ⟨heap_alloc_new w1 _, (rdf_own ho).below ((Below.refl _ _).alloc (Nat.le_refl _) _), fun hk => by have := (ho.lt _ hk).2; omega⟩)
  have HB := Kp.mk (hb.alloc hb.size (.cells #[u] 22))
  have HS := Kp.mk hb.size
  obtain ⟨a, c, rfl⟩ := own_lenH ho
  clear ho hb
  go_wp2_with fail
  go_ret2
  exact ⟨_, _, rfl, HX.out, HS.out, HB.out⟩
theorem cxall_any (bx : Nat) (u : Value) (m : List Fld) (w : World) (h : MX bx u m w) :
    Calls Tryz.prog 29 #[.pointer (some ⟨bx, 0, none⟩)] w fun e w' => e = .returned u ∧ w' = w := by
  have c0 := blk_cell (i := 0) h.hb rfl
  obtain ⟨a, c, rfl⟩ := rdf_form h.rd
  clear h
  go_enter Tryz.func29, Tryz.ntmps29
  go_wp2_with fail
  go_ret
  exact ⟨rfl, rfl⟩
theorem onl_bel {bx : Nat} {w0 w w' : World} (h : Onl bx none w w') (hb : Below w0.heap.size w0 w) (hl : w0.heap.size ≤ bx) : Below w0.heap.size w0 w' := hb.trans (h.below hl hb.size (fun k e => by cases e))
def RetX (m : List Fld) (w : World) (e : Ending) (w' : World) : Prop := ∃ u, e = .returned u ∧ RdF w' u m ∧ Below w.heap.size w w'
set_option maxRecDepth 100000 in
set_option maxHeartbeats 4000000 in
theorem cxreq_any (v : Value) (l : List Fld) (f t : Int) (w : World) (hv : RdF w v l) (hF : FewF l) :
    Calls Tryz.prog 8 #[v, .int .i64 f, .int .i64 t] w (RetX (reqL l f t) w) := by
  have HV := Kp.mk hv
  have HF := Kp.mk hF
  have hl := hF.len
  have HR := Kp.mk (show reqL l f t = adL (adL l (decide (f ≤ 0) && (decide (0 < t) && cPr l)) nmCC vNC) (decide (0 < f) && (decide (t ≤ 0) && cHas l vNC)) nmPR vNC from rfl)
  have HC1 := Kp.mk (fun w hv => show Calls Tryz.prog 13 #[v] w fun e w' => e = .returned (.bool (cPr l)) ∧ Below w.heap.size w w' from cprag_any v l w hv hF)
  have HC2 := Kp.mk (fun w hv => show Calls Tryz.prog 15 #[v, .string vNC] w fun e w' => e = .returned (.bool (cHas l vNC)) ∧ Below w.heap.size w w' from chas21_any v l vNC w hv hF (by decide))
  have HN := Kp.mk (fun (w : World) (_ : Unit) => cxno_any w)
  generalize reqL l f t = RL at *
  generalize cPr l = P at *
  generalize cHas l vNC = Q at *
  unfold RetX
  clear hv hF
  have HSM := Kp.mk (fun (b : Bool) (n : ByteArray) (hn : n.size ≤ 100000) => adL_sm (b := b) (n := n) (x := vNC) HF.out.sm hn (by decide))
  have HLN := Kp.mk (fun (b : Bool) (n : ByteArray) => show (adL l b n vNC).length ≤ 1000 by have := (adL_len l b n vNC).2; omega)
  by_cases hf : f ≤ 0
  · by_cases ht : 0 < t
    · skip
      have qf : f ≤ 0 := by omega
      have qf2 : ¬ 0 < f := by omega
      have qt : 0 < t := by omega
      have qt2 : ¬ t ≤ 0 := by omega
      have HR2 := Kp.mk (show RL = adL (adL l (P) nmCC vNC) (false) nmPR vNC by rw [HR.out]; simp [qf, qf2, qt, qt2])
      go_enter Tryz.func8, Tryz.ntmps8
      go_wp2_with fail
      refine (cxadded_any v l _ HV.out (by omega)).mono ?_
      rintro e w1 ⟨bx, u, rfl, hm, hlo, hb⟩
      have HM := Kp.mk hm
      have HB := Kp.mk hb
      have HLO := Kp.mk hlo
      clear hm hb hlo
      go_wp2_with fail
      refine (HC1.out _ (HV.out.below HB.out)).mono ?_
      rintro e w2 ⟨rfl, hb⟩
      replace HM := Kp.mk (HM.out.below hb)
      replace HB := Kp.mk (HB.out.trans (hb.mono HB.out.size))
      clear hb
      go_wp2_with fail
      refine (cxadd_no (P) nmCC vNC bx u l _ HM.out HF.out.sm (by omega) (by decide) (fun _ w' _ => cxno_any w')).mono ?_
      rintro e w3 ⟨rfl, u2, hm, ho⟩
      have HM2 := Kp.mk hm
      have HB2 := Kp.mk (onl_bel ho HB.out HLO.out)
      clear hm ho HM HB
      go_wp2_with fail
      refine (cxadd_no (false) nmPR vNC bx u2 _ _ HM2.out (HSM.out _ nmCC (by decide)) (HLN.out _ nmCC) (by decide) (fun _ w' _ => cxno_any w')).mono ?_
      rintro e w5 ⟨rfl, u3, hm, ho⟩
      have HM3 := Kp.mk hm
      have HB3 := Kp.mk (onl_bel ho HB2.out HLO.out)
      clear hm ho HM2 HB2
      rw [← HR2.out] at HM3
      go_wp2_with fail
      refine (cxall_any bx u3 _ _ HM3.out).mono ?_
      rintro e w6 ⟨rfl, rfl⟩
      obtain ⟨a3, c3, hu3⟩ := rdf_form HM3.out.rd
      have HU3 := Kp.mk hu3
      clear hu3
      go_wp2_with fail
      go_ret
      exact ⟨_, rfl, HM3.out.rd, HB3.out⟩
    · skip
      have qf : f ≤ 0 := by omega
      have qf2 : ¬ 0 < f := by omega
      have qt : ¬ 0 < t := by omega
      have qt2 : t ≤ 0 := by omega
      have HR2 := Kp.mk (show RL = adL (adL l (false) nmCC vNC) (false) nmPR vNC by rw [HR.out]; simp [qf, qf2, qt, qt2])
      go_enter Tryz.func8, Tryz.ntmps8
      go_wp2_with fail
      refine (cxadded_any v l _ HV.out (by omega)).mono ?_
      rintro e w1 ⟨bx, u, rfl, hm, hlo, hb⟩
      have HM := Kp.mk hm
      have HB := Kp.mk hb
      have HLO := Kp.mk hlo
      clear hm hb hlo
      go_wp2_with fail
      refine (cxadd_no (false) nmCC vNC bx u l _ HM.out HF.out.sm (by omega) (by decide) (fun _ w' _ => cxno_any w')).mono ?_
      rintro e w3 ⟨rfl, u2, hm, ho⟩
      have HM2 := Kp.mk hm
      have HB2 := Kp.mk (onl_bel ho HB.out HLO.out)
      clear hm ho HM HB
      go_wp2_with fail
      refine (cxadd_no (false) nmPR vNC bx u2 _ _ HM2.out (HSM.out _ nmCC (by decide)) (HLN.out _ nmCC) (by decide) (fun _ w' _ => cxno_any w')).mono ?_
      rintro e w5 ⟨rfl, u3, hm, ho⟩
      have HM3 := Kp.mk hm
      have HB3 := Kp.mk (onl_bel ho HB2.out HLO.out)
      clear hm ho HM2 HB2
      rw [← HR2.out] at HM3
      go_wp2_with fail
      refine (cxall_any bx u3 _ _ HM3.out).mono ?_
      rintro e w6 ⟨rfl, rfl⟩
      obtain ⟨a3, c3, hu3⟩ := rdf_form HM3.out.rd
      have HU3 := Kp.mk hu3
      clear hu3
      go_wp2_with fail
      go_ret
      exact ⟨_, rfl, HM3.out.rd, HB3.out⟩
  · by_cases ht : 0 < t
    · skip
      have qf : ¬ f ≤ 0 := by omega
      have qf2 : 0 < f := by omega
      have qt : 0 < t := by omega
      have qt2 : ¬ t ≤ 0 := by omega
      have HR2 := Kp.mk (show RL = adL (adL l (false) nmCC vNC) (false) nmPR vNC by rw [HR.out]; simp [qf, qf2, qt, qt2])
      go_enter Tryz.func8, Tryz.ntmps8
      go_wp2_with fail
      refine (cxadded_any v l _ HV.out (by omega)).mono ?_
      rintro e w1 ⟨bx, u, rfl, hm, hlo, hb⟩
      have HM := Kp.mk hm
      have HB := Kp.mk hb
      have HLO := Kp.mk hlo
      clear hm hb hlo
      go_wp2_with fail
      refine (cxadd_no (false) nmCC vNC bx u l _ HM.out HF.out.sm (by omega) (by decide) (fun _ w' _ => cxno_any w')).mono ?_
      rintro e w3 ⟨rfl, u2, hm, ho⟩
      have HM2 := Kp.mk hm
      have HB2 := Kp.mk (onl_bel ho HB.out HLO.out)
      clear hm ho HM HB
      go_wp2_with fail
      refine (cxadd_no (false) nmPR vNC bx u2 _ _ HM2.out (HSM.out _ nmCC (by decide)) (HLN.out _ nmCC) (by decide) (fun _ w' _ => cxno_any w')).mono ?_
      rintro e w5 ⟨rfl, u3, hm, ho⟩
      have HM3 := Kp.mk hm
      have HB3 := Kp.mk (onl_bel ho HB2.out HLO.out)
      clear hm ho HM2 HB2
      rw [← HR2.out] at HM3
      go_wp2_with fail
      refine (cxall_any bx u3 _ _ HM3.out).mono ?_
      rintro e w6 ⟨rfl, rfl⟩
      obtain ⟨a3, c3, hu3⟩ := rdf_form HM3.out.rd
      have HU3 := Kp.mk hu3
      clear hu3
      go_wp2_with fail
      go_ret
      exact ⟨_, rfl, HM3.out.rd, HB3.out⟩
    · skip
      have qf : ¬ f ≤ 0 := by omega
      have qf2 : 0 < f := by omega
      have qt : ¬ 0 < t := by omega
      have qt2 : t ≤ 0 := by omega
      have HR2 := Kp.mk (show RL = adL (adL l (false) nmCC vNC) (Q) nmPR vNC by rw [HR.out]; simp [qf, qf2, qt, qt2])
      go_enter Tryz.func8, Tryz.ntmps8
      go_wp2_with fail
      refine (cxadded_any v l _ HV.out (by omega)).mono ?_
      rintro e w1 ⟨bx, u, rfl, hm, hlo, hb⟩
      have HM := Kp.mk hm
      have HB := Kp.mk hb
      have HLO := Kp.mk hlo
      clear hm hb hlo
      go_wp2_with fail
      refine (cxadd_no (false) nmCC vNC bx u l _ HM.out HF.out.sm (by omega) (by decide) (fun _ w' _ => cxno_any w')).mono ?_
      rintro e w3 ⟨rfl, u2, hm, ho⟩
      have HM2 := Kp.mk hm
      have HB2 := Kp.mk (onl_bel ho HB.out HLO.out)
      clear hm ho HM HB
      go_wp2_with fail
      refine (HC2.out _ (HV.out.below HB2.out)).mono ?_
      rintro e w4 ⟨rfl, hb⟩
      replace HM2 := Kp.mk (HM2.out.below hb)
      replace HB2 := Kp.mk (HB2.out.trans (hb.mono HB2.out.size))
      clear hb
      go_wp2_with fail
      refine (cxadd_no (Q) nmPR vNC bx u2 _ _ HM2.out (HSM.out _ nmCC (by decide)) (HLN.out _ nmCC) (by decide) (fun _ w' _ => cxno_any w')).mono ?_
      rintro e w5 ⟨rfl, u3, hm, ho⟩
      have HM3 := Kp.mk hm
      have HB3 := Kp.mk (onl_bel ho HB2.out HLO.out)
      clear hm ho HM2 HB2
      rw [← HR2.out] at HM3
      go_wp2_with fail
      refine (cxall_any bx u3 _ _ HM3.out).mono ?_
      rintro e w6 ⟨rfl, rfl⟩
      obtain ⟨a3, c3, hu3⟩ := rdf_form HM3.out.rd
      have HU3 := Kp.mk hu3
      clear hu3
      go_wp2_with fail
      go_ret
      exact ⟨_, rfl, HM3.out.rd, HB3.out⟩
end Go.Proofs.YtgamekfickheaaaGreat
