/- What is said to caches of another version (layer 31): the document's example, its Request; CachefixRequests (bin/mkcxd.py). -/
import Derived.Test.YtgamekfickheaaaGreatCxc
import Derived.Deep.RegionHeld3
namespace Go.Proofs.YtgamekfickheaaaGreat
open Go.RowKit
set_option linter.unusedVariables false
set_option linter.unusedSimpArgs false

def cxL1 : List Fld := [(⟨#[80, 114, 97, 103, 109, 97]⟩, ⟨#[110, 111, 45, 99, 97, 99, 104, 101]⟩)]
def cxL2 : List Fld := [(⟨#[67, 97, 99, 104, 101, 45, 67, 111, 110, 116, 114, 111, 108]⟩, ⟨#[109, 97, 120, 45, 97, 103, 101, 61, 49]⟩)]
theorem blk_drewX {w : World} {b : Nat} {o : Obj} (h : w.heap[b]? = some o) : w.drew.heap[b]? = some o := h
theorem cx1_pr : cPr cxL1 = true := by decide +kernel
theorem cx1_is : hIs cxL1 nmCC = false := by decide +kernel
theorem cx1_req : reqL cxL1 0 1 = [(⟨#[80, 114, 97, 103, 109, 97]⟩, ⟨#[110, 111, 45, 99, 97, 99, 104, 101]⟩), (⟨#[67, 97, 99, 104, 101, 45, 67, 111, 110, 116, 114, 111, 108]⟩, ⟨#[110, 111, 45, 99, 97, 99, 104, 101]⟩)] := by
  have e : reqL cxL1 0 1 = adL cxL1 (cPr cxL1) nmCC vNC := rfl
  rw [e, cx1_pr, adL_yes cx1_is (by decide)]
  rfl
theorem cx2_cc : ccD cxL2 = [(⟨#[109, 97, 120, 45, 97, 103, 101]⟩, ⟨#[49]⟩, true)] := by decide +kernel
theorem cx2_age : ageR (ccD cxL2) = (1, true) := by rw [cx2_cc]; decide +kernel
theorem cx2_hd : cHd cxL2 = false := by unfold cHd cHas; rw [cx2_cc]; decide +kernel
theorem cx2_is : hIs cxL2 nmEX = false := by decide +kernel
theorem cx2_get : hGet cxL2 nmDT = ⟨#[]⟩ := by decide +kernel
theorem par_none : parP 0 [] = (0, 0, 3) := by
  have h0 : allS (patS 0).data.toList (fd0 []) = none := by decide +kernel
  have h1 : allS (patS 1).data.toList (fd0 []) = none := by decide +kernel
  have h2 : allS (patS 2).data.toList (fd0 []) = none := by decide +kernel
  unfold parP
  rw [if_pos (by decide), ((parF_none (k := 0) (by decide) h0).trans (parF_none (k := 1) (by decide) h1)).trans (parF_none (k := 2) (by decide) h2)]
  rfl
theorem cx2_bas : basI cxL2 0 = 0 := by
  have h : (datS cxL2 nmDT 0).2 = false := by
    show decide ((parP 0 (hGet cxL2 nmDT).data.toList).2.2 = 0) = false
    rw [cx2_get]
    show decide ((parP 0 []).2.2 = 0) = false
    rw [par_none]; rfl
  unfold basI
  rw [h]; rfl
theorem prt_one : prtB 1 = ⟨#[84, 104, 117, 44, 32, 48, 49, 32, 74, 97, 110, 32, 49, 57, 55, 48, 32, 48, 48, 58, 48, 48, 58, 48, 49, 32, 71, 77, 84]⟩ :=
  (prt_of (n := 1) (y := 1970) (m := 1) (d := 1) 4 0 ⟨by decide, by decide, by decide, by decide, by decide, by decide⟩ (by decide +kernel) (by decide +kernel) (by decide +kernel) (by decide)).trans (by decide +kernel)
theorem cx2_exp : expV cxL2 0 = ⟨#[84, 104, 117, 44, 32, 48, 49, 32, 74, 97, 110, 32, 49, 57, 55, 48, 32, 48, 48, 58, 48, 48, 58, 48, 49, 32, 71, 77, 84]⟩ := by
  unfold expV
  rw [cx2_hd, cx2_bas, cx2_age]
  have e : IntKind.i64.wrap (0 + (1, true).1) = 1 := by decide
  rw [e, if_neg (by decide)]
  exact prt_one
theorem cx2_res : resL cxL2 1 0 0 = [(⟨#[67, 97, 99, 104, 101, 45, 67, 111, 110, 116, 114, 111, 108]⟩, ⟨#[109, 97, 120, 45, 97, 103, 101, 61, 49]⟩), (⟨#[69, 120, 112, 105, 114, 101, 115]⟩, ⟨#[84, 104, 117, 44, 32, 48, 49, 32, 74, 97, 110, 32, 49, 57, 55, 48, 32, 48, 48, 58, 48, 48, 58, 48, 49, 32, 71, 77, 84]⟩)] := by
  have e : resL cxL2 1 0 0 = adL (adL (adL (adL cxL2 (true && cHd cxL2) nmPR vNC) (true && (cHd cxL2 || (ageR (ccD cxL2)).2)) nmEX (expV cxL2 0)) (false && cPr cxL2) nmCC vNC) false nmCC (freV cxL2 0) := rfl
  rw [e, cx2_hd, cx2_age, cx2_exp]
  show adL cxL2 true nmEX ⟨#[84, 104, 117, 44, 32, 48, 49, 32, 74, 97, 110, 32, 49, 57, 55, 48, 32, 48, 48, 58, 48, 48, 58, 48, 49, 32, 71, 77, 84]⟩ = _
  rw [adL_yes cx2_is (by decide)]
  rfl
theorem cx1_few : FewF cxL1 := ⟨by decide, by intro p hp; simp [cxL1] at hp; subst hp; exact ⟨by decide, by decide⟩⟩
theorem cx2_few : FewF cxL2 := ⟨by decide, by intro p hp; simp [cxL2] at hp; subst hp; exact ⟨by decide, by decide⟩⟩
theorem rdf_oneX (w : World) (n x : ByteArray) : RdF (w.alloc (.cells #[.string n, .string x] 32)) (.slice (some ⟨w.heap.size, 0, none⟩) 1 1) [(n, x)] := by
  have h := heap_alloc_new w (.cells #[.string n, .string x] 32)
  refine ⟨some ⟨w.heap.size, 0, none⟩, 1, rfl, by simp, by unfold maxLen; omega, fun _ => ⟨w.heap.size, 0, rfl, blk_lt h, fun j hj i hi => ?_⟩⟩
  have hj1 : j < 1 := by simpa using hj
  obtain rfl : j = 0 := by omega
  rcases (by omega : i = 0 ∨ i = 1) with rfl | rfl
  · exact blk_cell (i := 0) h rfl
  · exact blk_cell (i := 1) h rfl
theorem rdf_two {w : World} {v : Value} {n1 x1 n2 x2 : ByteArray} (h : RdF w v [(n1, x1), (n2, x2)]) : ∃ g o c, v = .slice (some ⟨g, o, none⟩) 2 c ∧ g < w.heap.size ∧ w.cell? ⟨g, o + 2, none⟩ = some (.string n2) ∧ w.cell? ⟨g, o + 2 + 1, none⟩ = some (.string x2) := by
  obtain ⟨a, c, rfl⟩ := rdf_form h
  obtain ⟨g, o, rfl, hg, d⟩ := rdf_cells h (by simp)
  have := d 1 (by simp)
  exact ⟨g, o, c, rfl, hg, this.1, this.2⟩
set_option maxRecDepth 100000 in
set_option maxHeartbeats 2000000 in
theorem lives31_any (w : World) : Calls Tryz.prog 6 #[] w fun e w' => e = .returned (.bool true) ∧ Below w.heap.size w w' := by
  have HB := Kp.mk ((Below.refl w.heap.size w).alloc (Nat.le_refl _) (.cells #[.string ⟨#[80, 114, 97, 103, 109, 97]⟩, .string ⟨#[110, 111, 45, 99, 97, 99, 104, 101]⟩] 32))
  have C1 := Kp.mk (cxreq_any _ cxL1 0 1 _ (rdf_oneX w ⟨#[80, 114, 97, 103, 109, 97]⟩ ⟨#[110, 111, 45, 99, 97, 99, 104, 101]⟩) cx1_few)
  rw [cx1_req] at C1
  have C2 := Kp.mk (fun w => cxres_any _ cxL2 1 0 0 _ (rdf_oneX w ⟨#[67, 97, 99, 104, 101, 45, 67, 111, 110, 116, 114, 111, 108]⟩ ⟨#[109, 97, 120, 45, 97, 103, 101, 61, 49]⟩) cx2_few (by decide) (by decide))
  rw [cx2_res] at C2
  unfold RetX at C1 C2
  go_enter Tryz.func6, Tryz.ntmps6
  go_wp2_with fail
  refine C1.out.mono ?_
  rintro e w1 ⟨u1, rfl, hr1, hb1⟩
  have HB1 := Kp.mk (HB.out.trans (hb1.mono HB.out.size))
  have HR1 := Kp.mk hr1
  obtain ⟨g1, o1, k1, rfl, -, -, -⟩ := rdf_two hr1
  clear hr1 hb1
  go_wp2_with fail
  refine (C2.out _).mono ?_
  rintro e w2 ⟨u2, rfl, hr2, hb2⟩
  have HB2 := Kp.mk ((HB1.out.alloc HB1.out.size (.cells #[.string ⟨#[67, 97, 99, 104, 101, 45, 67, 111, 110, 116, 114, 111, 108]⟩, .string ⟨#[109, 97, 120, 45, 97, 103, 101, 61, 49]⟩] 32)).trans (hb2.mono (HB1.out.alloc HB1.out.size (.cells #[.string ⟨#[67, 97, 99, 104, 101, 45, 67, 111, 110, 116, 114, 111, 108]⟩, .string ⟨#[109, 97, 120, 45, 97, 103, 101, 61, 49]⟩] 32)).size))
  have HR2 := (HR1.out.below ((Below.refl _ _).alloc (Nat.le_refl _) _)).below hb2
  obtain ⟨g, o, k, e1, -, c1, c2⟩ := rdf_two HR2
  cases e1
  obtain ⟨g2, o2, k2, rfl, -, c3, c4⟩ := rdf_two hr2
  clear hr2 hb2 HR2
  go_wp2_with fail
  go_ret
  exact ⟨rfl, HB2.out⟩
set_option maxHeartbeats 400000 in
theorem rcxnone_any (v : Value) (l : List Fld) (nm : ByteArray) (w : World) (hv : RdF w v l) (hF : FewF l) (hn : nm.size ≤ 100000) :
    Calls Tryz.prog 17 #[v, .string nm] w fun e w' => e = .returned (.bool (!hIs l nm)) ∧ Below w.heap.size w w' := by
  have HC := Kp.mk (rhall_any v l nm w hv hF.sm (by have := hF.len; omega) hn)
  have HI := Kp.mk (show hIs l nm = decide (0 < (hAll l nm).length) from rfl)
  generalize hAll l nm = A at *
  clear hv hF
  go_enter Tryz.func17, Tryz.ntmps17
  go_wp2_with fail
  refine HC.out.mono ?_
  rintro e w1 ⟨u, rfl, ho, hb⟩
  obtain ⟨a, c, rfl⟩ := own_lenH ho
  have HB := Kp.mk hb
  clear ho hb
  by_cases h0 : A.length = 0
  · have t0 : ((A.length : Int) == 0) = true := by rw [h0]; rfl
    have HE := Kp.mk (show (!hIs l nm) = true by rw [HI.out, h0]; rfl)
    go_wp2_with fail
    go_ret
    exact ⟨by rw [HE.out]; try rfl, HB.out⟩
  · have t0 : ((A.length : Int) == 0) = false := by rw [beq_eq_false_iff_ne]; omega
    have HE := Kp.mk (show (!hIs l nm) = false by rw [HI.out, decide_eq_true (by omega)]; rfl)
    go_wp2_with fail
    go_ret
    exact ⟨by rw [HE.out]; try rfl, HB.out⟩
set_option maxHeartbeats 400000 in
theorem rcxhas_any (v : Value) (l : List Fld) (nm : ByteArray) (w : World) (hv : RdF w v l) (hF : FewF l) (hn : nm.size ≤ 1000000) :
    Calls Tryz.prog 19 #[v, .string nm] w fun e w' => e = .returned (.bool (cHas l nm)) ∧ Below w.heap.size w w' := by
  have HC := Kp.mk (rfind_any v l nm w hv hF hn)
  have HE := Kp.mk (show cHas l nm = fdB (ccD l) nm from fdI_dec _ _)
  generalize cHas l nm = H at *
  generalize fdB (ccD l) nm = b at *
  generalize fdD (ccD l) nm = d at *
  clear hv hF
  go_enter Tryz.func19, Tryz.ntmps19
  go_wp2_with fail
  refine HC.out.mono ?_
  rintro e w1 ⟨rfl, hb⟩
  have HB := Kp.mk (hb.alloc hb.size (.cells #[.string d.1, .string d.2.1, .bool d.2.2] 57))
  clear hb
  go_wp2_with fail
  go_ret
  exact ⟨by rw [HE.out]; rfl, HB.out⟩
set_option maxRecDepth 100000 in
set_option maxHeartbeats 2000000 in
theorem rcxreq_any (v : Value) (l : List Fld) (f t : Int) (w : World) (hv : RdF w v l) (hF : FewF l) :
    Calls Tryz.prog 9 #[v, .int .i64 f, .int .i64 t] w (RetX (reqL l f t) w) := by
  have HV1 := Kp.mk hv
  have HB1 := Kp.mk (Below.refl w.heap.size w)
  have hl := hF.len
  obtain ⟨av, cv, rfl⟩ := rdf_form hv
  have HR := Kp.mk (show reqL l f t = adL (adL l (decide (f ≤ 0) && (decide (0 < t) && cPr l)) nmCC vNC) (decide (0 < f) && (decide (t ≤ 0) && cHas l vNC)) nmPR vNC from rfl)
  have C1 := Kp.mk (fun w hv => show Calls Tryz.prog 16 #[.slice av l.length cv] w fun e w' => e = .returned (.bool (cPr l)) ∧ Below w.heap.size w w' from rprag_any _ l w hv hF)
  have C2 := Kp.mk (fun w hv => rcxhas_any _ l vNC w hv hF (by decide) : ∀ w, RdF w (.slice av l.length cv) l → _)
  have C3 := Kp.mk (fun w hv => rcxnone_any _ l nmCC w hv hF (by decide) : ∀ w, RdF w (.slice av l.length cv) l → _)
  have C4 := Kp.mk (fun w hv => rcxnone_any _ l nmPR w hv hF (by decide) : ∀ w, RdF w (.slice av l.length cv) l → _)
  have Y1 := Kp.mk (@adL_yes l nmCC vNC)
  have Y2 := Kp.mk (@adL_yes l nmPR vNC)
  have I1 := Kp.mk (@adL_is l nmCC vNC)
  have I2 := Kp.mk (@adL_is l nmPR vNC)
  have hz : vNC.size ≠ 0 := by decide
  have HZ := Kp.mk hz
  generalize reqL l f t = RL at *
  generalize cPr l = P at *
  generalize cHas l vNC = Q at *
  generalize hIs l nmCC = i1 at *
  generalize hIs l nmPR = i2 at *
  unfold RetX
  clear hv hF hz
  go_enter Tryz.func9, Tryz.ntmps9
  by_cases hf : f ≤ 0
  · by_cases ht : 0 < t
    · skip
      have qf : f < 1 := by omega
      have qf2 : ¬ 0 < f := by omega
      have qf3 : f ≤ 0 := by omega
      have qt : 0 < t := by omega
      have qt2 : ¬ t < 1 := by omega
      have qt3 : ¬ t ≤ 0 := by omega
      have HR2 := Kp.mk (show RL = adL l P nmCC vNC by rw [HR.out]; simp only [decide_eq_true_eq, qf2, qf3, qt, qt3, decide_true, decide_false, Bool.true_and, Bool.false_and, Bool.and_false, adL_no])
      go_wp2_with fail
      refine (C1.out _ HV1.out).mono ?_
      rintro e w2 ⟨rfl, hb⟩
      replace HV1 := Kp.mk (HV1.out.below hb)
      replace HB1 := Kp.mk (HB1.out.trans (hb.mono HB1.out.size))
      clear hb
      cases P
      · have HR3 := Kp.mk (HR2.out.trans adL_no)
        go_wp2_with fail
        go_ret
        exact ⟨_, rfl, by rw [HR3.out]; exact HV1.out, HB1.out⟩
      · go_wp2_with fail
        refine (C3.out _ HV1.out).mono ?_
        rintro e w3 ⟨rfl, hb⟩
        replace HV1 := Kp.mk (HV1.out.below hb)
        replace HB1 := Kp.mk (HB1.out.trans (hb.mono HB1.out.size))
        clear hb
        cases i1
        · have HR3 := Kp.mk (HR2.out.trans (Y1.out rfl HZ.out))
          go_wp2_with fail
          refine (rhwith_any _ l _ _ _ HV1.out (by omega)).mono ?_
          rintro e w9 ⟨u, rfl, ho, hb⟩
          have HR9 := Kp.mk (rdf_own ho)
          have HB9 := Kp.mk (HB1.out.trans (hb.mono HB1.out.size))
          clear ho hb
          obtain ⟨a9, c9, hu⟩ := rdf_form HR9.out
          have hu2 : u = .slice a9 (l.length + 1) c9 := by rw [hu, List.length_append]; rfl
          clear hu
          subst hu2
          go_wp2_with fail
          go_ret
          exact ⟨_, rfl, by rw [HR3.out]; exact HR9.out, HB9.out⟩
        · have HR3 := Kp.mk (HR2.out.trans (I1.out rfl))
          go_wp2_with fail
          go_ret
          exact ⟨_, rfl, by rw [HR3.out]; exact HV1.out, HB1.out⟩
    · skip
      have qf : f < 1 := by omega
      have qf2 : ¬ 0 < f := by omega
      have qf3 : f ≤ 0 := by omega
      have qt : ¬ 0 < t := by omega
      have qt2 : t < 1 := by omega
      have qt3 : t ≤ 0 := by omega
      have HR2 := Kp.mk (show RL = l by rw [HR.out]; simp only [decide_eq_true_eq, qf2, qf3, qt, qt3, decide_true, decide_false, Bool.true_and, Bool.false_and, Bool.and_false, adL_no])
      go_wp2_with fail
      go_ret
      exact ⟨_, rfl, by rw [HR2.out]; exact HV1.out, HB1.out⟩
  · by_cases ht : 0 < t
    · skip
      have qf : ¬ f < 1 := by omega
      have qf2 : 0 < f := by omega
      have qf3 : ¬ f ≤ 0 := by omega
      have qt : 0 < t := by omega
      have qt2 : ¬ t < 1 := by omega
      have qt3 : ¬ t ≤ 0 := by omega
      have HR2 := Kp.mk (show RL = l by rw [HR.out]; simp only [decide_eq_true_eq, qf2, qf3, qt, qt3, decide_true, decide_false, Bool.true_and, Bool.false_and, Bool.and_false, adL_no])
      go_wp2_with fail
      go_ret
      exact ⟨_, rfl, by rw [HR2.out]; exact HV1.out, HB1.out⟩
    · skip
      have qf : ¬ f < 1 := by omega
      have qf2 : 0 < f := by omega
      have qf3 : ¬ f ≤ 0 := by omega
      have qt : ¬ 0 < t := by omega
      have qt2 : t < 1 := by omega
      have qt3 : t ≤ 0 := by omega
      have HR2 := Kp.mk (show RL = adL l Q nmPR vNC by rw [HR.out]; simp only [decide_eq_true_eq, qf2, qf3, qt, qt3, decide_true, decide_false, Bool.true_and, Bool.false_and, Bool.and_false, adL_no])
      go_wp2_with fail
      refine (C2.out _ HV1.out).mono ?_
      rintro e w2 ⟨rfl, hb⟩
      replace HV1 := Kp.mk (HV1.out.below hb)
      replace HB1 := Kp.mk (HB1.out.trans (hb.mono HB1.out.size))
      clear hb
      cases Q
      · have HR3 := Kp.mk (HR2.out.trans adL_no)
        go_wp2_with fail
        go_ret
        exact ⟨_, rfl, by rw [HR3.out]; exact HV1.out, HB1.out⟩
      · go_wp2_with fail
        refine (C4.out _ HV1.out).mono ?_
        rintro e w3 ⟨rfl, hb⟩
        replace HV1 := Kp.mk (HV1.out.below hb)
        replace HB1 := Kp.mk (HB1.out.trans (hb.mono HB1.out.size))
        clear hb
        cases i2
        · have HR3 := Kp.mk (HR2.out.trans (Y2.out rfl HZ.out))
          go_wp2_with fail
          refine (rhwith_any _ l _ _ _ HV1.out (by omega)).mono ?_
          rintro e w9 ⟨u, rfl, ho, hb⟩
          have HR9 := Kp.mk (rdf_own ho)
          have HB9 := Kp.mk (HB1.out.trans (hb.mono HB1.out.size))
          clear ho hb
          obtain ⟨a9, c9, hu⟩ := rdf_form HR9.out
          have hu2 : u = .slice a9 (l.length + 1) c9 := by rw [hu, List.length_append]; rfl
          clear hu
          subst hu2
          go_wp2_with fail
          go_ret
          exact ⟨_, rfl, by rw [HR3.out]; exact HR9.out, HB9.out⟩
        · have HR3 := Kp.mk (HR2.out.trans (I2.out rfl))
          go_wp2_with fail
          go_ret
          exact ⟨_, rfl, by rw [HR3.out]; exact HV1.out, HB1.out⟩
set_option maxRecDepth 100000 in
set_option maxHeartbeats 4000000 in
theorem cxreqs_walk (v : Value) (l : List Fld) (f t n : Int) (w : World) (hv : RdF w v l) (hz : ∀ p ∈ l, FldOk p) :
    Calls Tryz.prog 3 #[v, .agg #[.int .i64 f, .int .i64 t, .int .i64 n]] w fun e w' => e = .returned (.bool true) ∧ Below w.heap.size w w' := by
  have hT := heap_alloc_new w (.cells #[.int .i64 f, .int .i64 t, .int .i64 n] 24)
  have hB := (Below.refl w.heap.size w).alloc (Nat.le_refl _) (.cells #[.int .i64 f, .int .i64 t, .int .i64 n] 24)
  have HF1 := Kp.mk (few10_any v l _ (hv.below hB) hz)
  have HT := Kp.mk hT
  have HB := Kp.mk hB
  have HV := Kp.mk hv
  clear hz hT hB
  cases hfl : hFew l
  · rw [hfl] at HF1
    clear hv
    go_enter Tryz.func3, Tryz.ntmps3
    go_wp2_with fail
    refine HF1.out.mono ?_
    rintro e w1 ⟨rfl, hb⟩
    have HB1 := Kp.mk (HB.out.trans (hb.mono HB.out.size))
    clear hb
    go_wp2_with fail
    refine (lives31_any _).mono ?_
    rintro e w9 ⟨rfl, hb9⟩
    have HB9 := Kp.mk (HB1.out.trans (hb9.mono HB1.out.size))
    clear hb9
    go_wp2_with fail
    go_ret
    exact ⟨rfl, HB9.out⟩
  · rw [hfl] at HF1
    have hF := fewF_of hfl
    have hl := hF.len
    have C1 := Kp.mk (fun w v hv => cxreq_any v l f t w hv hF)
    have C2 := Kp.mk (fun w v hv => rcxreq_any v l f t w hv hF)
    have hml : (reqL l f t).length ≤ 1000000 := by
      have h1 := (adL_len l (decide (f ≤ 0) && (decide (0 < t) && cPr l)) nmCC vNC).2
      have h2 := (adL_len (adL l (decide (f ≤ 0) && (decide (0 < t) && cPr l)) nmCC vNC) (decide (0 < f) && (decide (t ≤ 0) && cHas l vNC)) nmPR vNC).2
      unfold reqL; omega
    unfold RetX at C1 C2
    generalize reqL l f t = M at *
    have HSM := Kp.mk (show sameL M M = true from decide_eq_true rfl)
    obtain ⟨av, cv, rfl⟩ := rdf_form hv
    clear hv hF hfl
    go_enter Tryz.func3, Tryz.ntmps3
    go_wp2_with fail
    refine HF1.out.mono ?_
    rintro e w1 ⟨rfl, hb⟩
    have HB2 := Kp.mk (HB.out.trans (hb.mono HB.out.size))
    replace HB := HB2
    replace HT := Kp.mk ((hb.block _ (blk_lt HT.out)).trans HT.out)
    clear hb HB2 HF1
    go_upto_region 3 with fail
    replace HB := Kp.mk (HB.out.drew)
    replace HT := Kp.mk (blk_drewX HT.out)
    refine wp_region_held_drew (S := fun w' => w'.cell? ⟨w.heap.size, 0, none⟩ = some (.int .i64 f) ∧ w'.cell? ⟨w.heap.size, 1, none⟩ = some (.int .i64 t)) (by kernel_rfl) (⟨blk_cell (i := 0) HT.out rfl, blk_cell (i := 1) HT.out rfl⟩) (fun hHeld => ?_)
    refine wpAnyH_take (i := 0) (oi := ⟨some 9, .move (.tmp 0), _, _, _, none⟩) (v := ?_) rfl (by kernel_rfl) (by kernel_rfl) (by kernel_rfl) (fun _ _ _ h => h) (Or.inl ⟨by rfl, ?_⟩) (by assumption) ?_
    rotate_left
    · intro w hSw
      try dsimp only at hSw
      go_simp
      try with_reducible rfl
    try simp only [Act.put, List.setIfInBounds_toArray, List.set_cons_zero, List.set_cons_succ]
    refine wpAnyH_take (i := 1) (oi := ⟨some 10, .fieldAddr 24 (.tmp 3) 0, _, _, _, none⟩) (v := ?_) rfl (by kernel_rfl) (by kernel_rfl) (by kernel_rfl) (fun _ _ _ h => h) (Or.inl ⟨by rfl, ?_⟩) (by assumption) ?_
    rotate_left
    · intro w hSw
      try dsimp only at hSw
      go_simp
      try with_reducible rfl
    try simp only [Act.put, List.setIfInBounds_toArray, List.set_cons_zero, List.set_cons_succ]
    refine wpAnyH_take (i := 2) (oi := ⟨some 11, .load 3 (.tmp 10), _, _, _, none⟩) (v := ?_) rfl (by kernel_rfl) (by kernel_rfl) (by kernel_rfl) (fun _ _ _ h => h) (Or.inl ⟨by rfl, ?_⟩) (by assumption) ?_
    rotate_left
    · intro w hSw
      try dsimp only at hSw
      go_simp
      try with_reducible rfl
    try simp only [Act.put, List.setIfInBounds_toArray, List.set_cons_zero, List.set_cons_succ]
    refine wpAnyH_take (i := 3) (oi := ⟨some 12, .fieldAddr 24 (.tmp 3) 1, _, _, _, none⟩) (v := ?_) rfl (by kernel_rfl) (by kernel_rfl) (by kernel_rfl) (fun _ _ _ h => h) (Or.inl ⟨by rfl, ?_⟩) (by assumption) ?_
    rotate_left
    · intro w hSw
      try dsimp only at hSw
      go_simp
      try with_reducible rfl
    try simp only [Act.put, List.setIfInBounds_toArray, List.set_cons_zero, List.set_cons_succ]
    refine wpAnyH_take (i := 4) (oi := ⟨some 13, .load 3 (.tmp 12), _, _, _, none⟩) (v := ?_) rfl (by kernel_rfl) (by kernel_rfl) (by kernel_rfl) (fun _ _ _ h => h) (Or.inl ⟨by rfl, ?_⟩) (by assumption) ?_
    rotate_left
    · intro w hSw
      try dsimp only at hSw
      go_simp
      try with_reducible rfl
    try simp only [Act.put, List.setIfInBounds_toArray, List.set_cons_zero, List.set_cons_succ]
    refine wpAnyH_take (i := 6) (oi := ⟨some 15, .move (.tmp 0), _, _, _, none⟩) (v := ?_) rfl (by kernel_rfl) (by kernel_rfl) (by kernel_rfl) (fun _ _ _ h => h) (Or.inl ⟨by rfl, ?_⟩) (by assumption) ?_
    rotate_left
    · intro w hSw
      try dsimp only at hSw
      go_simp
      try with_reducible rfl
    try simp only [Act.put, List.setIfInBounds_toArray, List.set_cons_zero, List.set_cons_succ]
    refine wpAnyH_take (i := 7) (oi := ⟨some 16, .fieldAddr 24 (.tmp 3) 0, _, _, _, none⟩) (v := ?_) rfl (by kernel_rfl) (by kernel_rfl) (by kernel_rfl) (fun _ _ _ h => h) (Or.inl ⟨by rfl, ?_⟩) (by assumption) ?_
    rotate_left
    · intro w hSw
      try dsimp only at hSw
      go_simp
      try with_reducible rfl
    try simp only [Act.put, List.setIfInBounds_toArray, List.set_cons_zero, List.set_cons_succ]
    refine wpAnyH_take (i := 8) (oi := ⟨some 17, .load 3 (.tmp 16), _, _, _, none⟩) (v := ?_) rfl (by kernel_rfl) (by kernel_rfl) (by kernel_rfl) (fun _ _ _ h => h) (Or.inl ⟨by rfl, ?_⟩) (by assumption) ?_
    rotate_left
    · intro w hSw
      try dsimp only at hSw
      go_simp
      try with_reducible rfl
    try simp only [Act.put, List.setIfInBounds_toArray, List.set_cons_zero, List.set_cons_succ]
    refine wpAnyH_take (i := 9) (oi := ⟨some 18, .fieldAddr 24 (.tmp 3) 1, _, _, _, none⟩) (v := ?_) rfl (by kernel_rfl) (by kernel_rfl) (by kernel_rfl) (fun _ _ _ h => h) (Or.inl ⟨by rfl, ?_⟩) (by assumption) ?_
    rotate_left
    · intro w hSw
      try dsimp only at hSw
      go_simp
      try with_reducible rfl
    try simp only [Act.put, List.setIfInBounds_toArray, List.set_cons_zero, List.set_cons_succ]
    refine wpAnyH_take (i := 10) (oi := ⟨some 19, .load 3 (.tmp 18), _, _, _, none⟩) (v := ?_) rfl (by kernel_rfl) (by kernel_rfl) (by kernel_rfl) (fun _ _ _ h => h) (Or.inl ⟨by rfl, ?_⟩) (by assumption) ?_
    rotate_left
    · intro w hSw
      try dsimp only at hSw
      go_simp
      try with_reducible rfl
    try simp only [Act.put, List.setIfInBounds_toArray, List.set_cons_zero, List.set_cons_succ]
    refine wpAnyH_ready (rs := [5]) (by kernel_rfl) (by simp) ?_
    refine AllReadyH.cons (o := ⟨some 14, _, _, _, _, none⟩) rfl (fun K hK => ?_) AllReadyH.nil
    go_simp
    (go_at_call 8; refine (C1.out _ _ (HV.out.below HB.out)).mono ?_; rintro e w5 ⟨u1, rfl, hr, hb⟩)
    have R1 := Kp.mk hr
    obtain ⟨a1, c1, rfl⟩ := rdf_form hr
    have HB2 := Kp.mk (HB.out.trans (hb.mono HB.out.size))
    replace HB := HB2
    replace HT := Kp.mk ((hb.block _ (blk_lt HT.out)).trans HT.out)
    clear hr hb HB2
    try go_wp2_with fail
    refine hK.out _ _ (⟨blk_cell (i := 0) HT.out rfl, blk_cell (i := 1) HT.out rfl⟩) (fun hHeld2 => ?_)
    clear hK K
    try simp only [Act.put, List.setIfInBounds_toArray, List.set_cons_zero, List.set_cons_succ]
    refine wpAnyH_ready (rs := [11]) (by kernel_rfl) (by simp) ?_
    refine AllReadyH.cons (o := ⟨some 20, _, _, _, _, none⟩) rfl (fun K hK => ?_) AllReadyH.nil
    go_simp
    (go_at_call 9; refine (C2.out _ _ (HV.out.below HB.out)).mono ?_; rintro e w6 ⟨u2, rfl, hr, hb⟩)
    have R2 := Kp.mk hr
    replace R1 := Kp.mk (R1.out.below hb)
    obtain ⟨a2, c2, rfl⟩ := rdf_form hr
    have HB2 := Kp.mk (HB.out.trans (hb.mono HB.out.size))
    replace HB := HB2
    replace HT := Kp.mk ((hb.block _ (blk_lt HT.out)).trans HT.out)
    clear hr hb HB2
    try go_wp2_with fail
    refine hK.out _ _ (⟨blk_cell (i := 0) HT.out rfl, blk_cell (i := 1) HT.out rfl⟩) (fun hHeld2 => ?_)
    clear hK K
    try simp only [Act.put, List.setIfInBounds_toArray, List.set_cons_zero, List.set_cons_succ]
    refine wpAnyH_ready (rs := [12]) (by kernel_rfl) (by simp) ?_
    refine AllReadyH.cons (o := ⟨some 21, _, _, _, _, none⟩) rfl (fun K hK => ?_) AllReadyH.nil
    go_simp
    (go_at_call 7; refine (rfsame_any _ _ M M _ R1.out R2.out hml hml).mono ?_; rw [HSM.out]; rintro e w7 ⟨rfl, hb⟩)
    have HB2 := Kp.mk (HB.out.trans (hb.mono HB.out.size))
    replace HB := HB2
    replace HT := Kp.mk ((hb.block _ (blk_lt HT.out)).trans HT.out)
    clear hb HB2
    try go_wp2_with fail
    refine hK.out _ _ (⟨blk_cell (i := 0) HT.out rfl, blk_cell (i := 1) HT.out rfl⟩) (fun hHeld2 => ?_)
    clear hK K
    try simp only [Act.put, List.setIfInBounds_toArray, List.set_cons_zero, List.set_cons_succ]
    refine wpAnyH_take (i := 13) (oi := ⟨some 22, .move (.tmp 21), _, _, _, none⟩) (v := ?_) rfl (by kernel_rfl) (by kernel_rfl) (by kernel_rfl) (fun _ _ _ h => h) (Or.inl ⟨by rfl, ?_⟩) (by assumption) ?_
    rotate_left
    · intro w hSw
      try dsimp only at hSw
      go_simp
      try with_reducible rfl
    try simp only [Act.put, List.setIfInBounds_toArray, List.set_cons_zero, List.set_cons_succ]
    refine wpAnyH_ready (rs := [14]) (by kernel_rfl) (by simp) ?_
    refine AllReadyH.cons (o := ⟨some 23, _, _, _, _, some (13, true)⟩) rfl (fun K hK => ?_) AllReadyH.nil
    go_simp
    (go_at_call 6; refine (lives31_any _).mono ?_; rintro e w8 ⟨rfl, hb⟩)
    have HB2 := Kp.mk (HB.out.trans (hb.mono HB.out.size))
    replace HB := HB2
    replace HT := Kp.mk ((hb.block _ (blk_lt HT.out)).trans HT.out)
    clear hb HB2
    try go_wp2_with fail
    refine hK.out _ _ (⟨blk_cell (i := 0) HT.out rfl, blk_cell (i := 1) HT.out rfl⟩) (fun hHeld2 => ?_)
    clear hK K
    try simp only [Act.put, List.setIfInBounds_toArray, List.set_cons_zero, List.set_cons_succ]
    refine wpAnyH_take (i := 15) (oi := ⟨some 24, .pick (.tmp 22) (.tmp 23) (.const (.bool false)), _, _, _, none⟩) (v := ?_) rfl (by kernel_rfl) (by kernel_rfl) (by kernel_rfl) (fun _ _ _ h => h) (Or.inl ⟨by rfl, ?_⟩) (by assumption) ?_
    rotate_left
    · intro w hSw
      try dsimp only at hSw
      go_simp
      try with_reducible rfl
    try simp only [Act.put, List.setIfInBounds_toArray, List.set_cons_zero, List.set_cons_succ]
    refine wpAnyH_take (i := 16) (oi := ⟨some 4, .assign (.tmp 24), _, _, _, none⟩) (v := ?_) rfl (by kernel_rfl) (by kernel_rfl) (by kernel_rfl) (fun _ _ _ h => h) (Or.inl ⟨by rfl, ?_⟩) (by assumption) ?_
    rotate_left
    · intro w hSw
      try dsimp only at hSw
      go_simp
      try with_reducible rfl
    try simp only [Act.put, List.setIfInBounds_toArray, List.set_cons_zero, List.set_cons_succ]
    refine wpAnyH_done (by kernel_rfl) ?_ _
    go_wp2_with fail
    go_ret
    exact ⟨rfl, HB.out⟩
theorem Tryz.cellsTu : Tryz.prog.cellsOf 24 = 3 := by kernel_rfl
theorem Tryz.cellsInX : Tryz.prog.cellsOf 3 = 1 := by kernel_rfl
set_option maxRecDepth 100000 in
theorem turn_arg (v : Value) (w : World) (h : Arg Tryz.prog w 24 v) : ∃ f t n : Int, v = .agg #[.int .i64 f, .int .i64 t, .int .i64 n] ∧ (Lit.int .i64 n).wf = true := by
  obtain ⟨cs, rfl, hr⟩ := h.struct Tryz.underlying24
  obtain ⟨hl, hf⟩ := hr.struct Tryz.underlying24
  rw [Tryz.cellsTu] at hl
  have f0 : Rdb Tryz.prog w 3 ((cs.drop 0).take (Tryz.prog.cellsOf 3)) := hf 0 _ rfl
  rw [Tryz.cellsInX] at f0
  have f1 : Rdb Tryz.prog w 3 ((cs.drop 1).take (Tryz.prog.cellsOf 3)) := hf 1 _ rfl
  rw [Tryz.cellsInX] at f1
  have f2 : Rdb Tryz.prog w 3 ((cs.drop 2).take (Tryz.prog.cellsOf 3)) := hf 2 _ rfl
  rw [Tryz.cellsInX] at f2
  obtain ⟨m0, k0, z0⟩ := f0.int Tryz.underlying3
  obtain ⟨m1, k1, z1⟩ := f1.int Tryz.underlying3
  obtain ⟨m2, k2, z2⟩ := f2.int Tryz.underlying3
  match cs, hl with
  | [x0, x1, x2], _ =>
    simp at k0 k1 k2
    exact ⟨m0, m1, m2, by rw [k0, k1, k2], z2⟩
theorem hlist_cx (v : Value) (w : World) (h : Arg Tryz.prog w 22 v) : ∃ l, RdF w v l ∧ ∀ p ∈ l, FldOk p :=
  h.list (f := fldC) (Q := FldOk) Tryz.underlying22 Tryz.fcellsFld (by omega) fun E hE =>
    fld_of Tryz.underlying32 Tryz.underlying9 Tryz.fcellsFld Tryz.fcellsFs ⟨_, rfl, rfl, rfl⟩ ⟨_, rfl, rfl, rfl⟩ hE
set_option maxRecDepth 100000 in
theorem cxreqs_arg (v0 v1 : Value) (w : World) (h0 : Arg Tryz.prog w 22 v0) (h1 : Arg Tryz.prog w 24 v1) :
    Calls Tryz.prog 3 #[v0, v1] w fun e w' => e = .returned (.bool true) ∧ Below w.heap.size w w' := by
  obtain ⟨l, hv, hz⟩ := hlist_cx v0 w h0
  obtain ⟨f, t, n, rfl, wn⟩ := turn_arg v1 w h1
  exact cxreqs_walk v0 l f t n w hv hz
end Go.Proofs.YtgamekfickheaaaGreat
