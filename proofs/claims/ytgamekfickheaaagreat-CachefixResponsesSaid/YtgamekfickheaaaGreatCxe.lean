/- What is said to caches of another version (layer 31): the document's Response; CachefixResponses (bin/mkcxe.py). -/
import Derived.Test.YtgamekfickheaaaGreatCxd
import Derived.Test.YtgamekfickheaaaGreatDtv
namespace Go.Proofs.YtgamekfickheaaaGreat
open Go.RowKit
set_option linter.unusedVariables false
set_option linter.unusedSimpArgs false

set_option maxRecDepth 100000 in
set_option maxHeartbeats 1000000 in
theorem rcxsec_any (v : Value) (l : List Fld) (nm : ByteArray) (now : Int) (w : World) (hv : RdF w v l) (hF : FewF l) (hn : nm.size ≤ 100000) (n0 : -9223372036854775808 ≤ now) (n1 : now ≤ 9223372036854775807) :
    Calls Tryz.prog 54 #[v, .string nm, .int .i64 now] w fun e w' => e = .returned (.tuple #[.int .i64 (datS l nm now).1, .bool (datS l nm now).2]) ∧ Below w.heap.size w w' := by
  have HG := Kp.mk (rhget_any v l nm w hv hF.sm (by have := hF.len; omega) hn)
  have hz := hGet_size (c := 1000) (fun p hp => (hF.val p hp).2) nm
  have HP := Kp.mk (fun w => dparse_any (hGet l nm) now w (by omega) n0 n1)
  have HD := Kp.mk (show datS l nm now = ((parP now (hGet l nm).data.toList).1, decide ((parP now (hGet l nm).data.toList).2.2 = 0)) from rfl)
  generalize datS l nm now = D at *
  generalize parP now (hGet l nm).data.toList = p at *
  generalize hGet l nm = G at *
  obtain ⟨p1, p2, p3⟩ := p
  obtain ⟨D1, D2⟩ := D
  have hD := HD.out
  cases hD
  unfold RetP at HP
  clear n0 n1 hv hF HD
  go_enter Tryz.func54, Tryz.ntmps54
  go_wp2_with fail
  refine HG.out.mono ?_
  rintro e w1 ⟨rfl, hb1⟩
  have HB1 := Kp.mk hb1
  clear hb1
  go_wp2_with fail
  refine (HP.out _).mono ?_
  rintro e w2 ⟨rfl, hb2⟩
  have HB2 := Kp.mk (HB1.out.trans (hb2.mono HB1.out.size))
  clear hb2
  by_cases h3 : p3 = 0
  · subst h3
    go_wp2_with fail
    go_ret2
    exact ⟨rfl, HB2.out⟩
  · have t3 : (p3 == 0) = false := by rw [beq_eq_false_iff_ne]; exact h3
    have HT := Kp.mk (show decide (p3 = 0) = false from decide_eq_false h3)
    go_wp2_with fail
    go_ret2
    exact ⟨by rw [HT.out]; rfl, HB2.out⟩
theorem hAll_snocX (m : List Fld) (n x nm : ByteArray) : hAll (m ++ [(n, x)]) nm = hAll m nm ++ (if foldB n nm = true then [x] else []) := by
  unfold hAll
  rw [List.filter_append, List.map_append]
  congr 1
  cases h : foldB n nm <;> simp [h]
theorem hIs_snoc {m : List Fld} {n x nm : ByteArray} (h : foldB n nm = false) : hIs (m ++ [(n, x)]) nm = hIs m nm := by
  unfold hIs
  rw [hAll_snocX, h]
  simp
theorem hIs_own {m : List Fld} {n x nm : ByteArray} (h : foldB n nm = true) : hIs (m ++ [(n, x)]) nm = true := by
  unfold hIs
  rw [hAll_snocX, h]
  simp
theorem hIs_adL {m : List Fld} {b : Bool} {n x nm : ByteArray} (h : foldB n nm = false) : hIs (adL m b n x) nm = hIs m nm := by
  rcases adL_cases m b n x with e | ⟨e, _⟩ <;> rw [e]
  exact hIs_snoc h
theorem fold_PE : foldB nmPR nmEX = false := by decide +kernel
theorem fold_CC : foldB nmCC nmCC = true := by unfold foldB; exact beq_self_eq_true _
theorem ageR_range (D : List Dir) : 0 ≤ (ageR D).1 ∧ (ageR D).1 ≤ 2147483647 := by
  unfold ageR
  split
  · exact ⟨by decide, by decide⟩
  · split
    · rename_i h0
      unfold numV
      rw [if_pos h0]
      unfold numE at h0
      split at h0
      · cases h0
      · split at h0
        · cases h0
        · split at h0
          · rename_i h3
            exact ⟨by show (0 : Int) ≤ _; omega, h3⟩
          · cases h0
    · split <;> exact ⟨by decide, by decide⟩
theorem prt_far {n : Int} (h : n < -62135596800 ∨ 253402300799 < n) : (prtB n).size = 0 := by
  have : placeB (n / 86400) = false := by
    simp only [placeB, decide_eq_false_iff_not]
    omega
  unfold prtB
  rw [this]
  rfl
theorem exp_far {l : List Fld} {now : Int} (hH : cHd l = false) (n0 : -9223372036854775808 ≤ now) (n1 : now ≤ 9223372036854775807) (hb : 253402300799 < basI l now) : (expV l now).size = 0 := by
  have h1 := basI_range l now n0 n1
  have h2 := ageR_range (ccD l)
  unfold expV
  rw [if_neg (by rw [hH]; decide)]
  refine prt_far ?_
  generalize basI l now = b at *
  generalize (ageR (ccD l)).1 = a at *
  simp only [IntKind.wrap, IntKind.signed, IntKind.bits]
  first | (simp [wrap64]; omega) | (simp; omega)
theorem exp_near {l : List Fld} {now : Int} (hH : cHd l = false) (n0 : -9223372036854775808 ≤ now) (n1 : now ≤ 9223372036854775807) (hb : ¬ 253402300799 < basI l now) : expV l now = prtB (basI l now + (ageR (ccD l)).1) ∧ IntKind.i64.wrap (basI l now + (ageR (ccD l)).1) = basI l now + (ageR (ccD l)).1 := by
  have h1 := basI_range l now n0 n1
  have h2 := ageR_range (ccD l)
  have e : IntKind.i64.wrap (basI l now + (ageR (ccD l)).1) = basI l now + (ageR (ccD l)).1 := by
    generalize basI l now = b at *
    generalize (ageR (ccD l)).1 = a at *
    simp [IntKind.wrap, IntKind.signed, IntKind.bits, wrap64]; omega
  refine ⟨?_, e⟩
  unfold expV
  rw [if_neg (by rw [hH]; decide), e]
theorem exp_held {l : List Fld} {now : Int} (hH : cHd l = true) : expV l now = prtB (basI l now) := if_pos hH
theorem adL_any_is {m : List Fld} {b : Bool} {n x : ByteArray} (h : hIs m n = true) : adL m b n x = m := by
  cases b
  · rfl
  · exact adL_is h
set_option maxRecDepth 100000 in
set_option maxHeartbeats 4000000 in
theorem rolder_any (v : Value) (l : List Fld) (now : Int) (w : World) (hv : RdF w v l) (hF : FewF l) (n0 : -9223372036854775808 ≤ now) (n1 : now ≤ 9223372036854775807) :
    Calls Tryz.prog 26 #[v, .int .i64 now] w (RetX (res2 l true now) w) := by
  have hl := hF.len
  obtain ⟨av, cv, rfl⟩ := rdf_form hv
  have HV1 := Kp.mk hv
  have HB1 := Kp.mk (Below.refl w.heap.size w)
  have CH := Kp.mk (fun nm (hn : nm.size ≤ 1000000) w hv => rcxhas_any (.slice av l.length cv) l nm w hv hF hn)
  have CA := Kp.mk (fun w hv => rage_any (.slice av l.length cv) l w hv hF)
  have CS := Kp.mk (fun w hv => rcxsec_any (.slice av l.length cv) l nmDT now w hv hF (by decide) n0 n1)
  have C3 := Kp.mk (fun w hv => rcxnone_any (.slice av l.length cv) l nmPR w hv hF (by decide))
  have C4 := Kp.mk (fun w hv => rcxnone_any (.slice av l.length cv) l nmEX w hv hF (by decide))
  have HHD := Kp.mk (show cHd l = (cHas l vNC || (cHas l vNS || cHas l vPV)) from rfl)
  have HBS := Kp.mk (show basI l now = if (datS l nmDT now).2 = true then (datS l nmDT now).1 else now from rfl)
  have hbr := basI_range l now n0 n1
  have har := ageR_range (ccD l)
  have E1 := Kp.mk (exp_held (l := l) (now := now))
  have E2 := Kp.mk (fun h h2 => exp_far (l := l) (now := now) h n0 n1 h2)
  have E3 := Kp.mk (fun h h2 => exp_near (l := l) (now := now) h n0 n1 h2)
  have P1 := Kp.mk (fun w => rprint_any (basI l now) w hbr.1 hbr.2)
  have P2 := Kp.mk (fun w h1 => rprint_any (basI l now + (ageR (ccD l)).1) w (by omega) h1)
  have HR := Kp.mk (show res2 l true now = adL (adL l (cHd l) nmPR vNC) (cHd l || (ageR (ccD l)).2) nmEX (expV l now) from rfl)
  have HI := Kp.mk (hIs_adL (m := l) (b := cHd l) (n := nmPR) (x := vNC) fold_PE)
  have hm1 := (adL_len l (cHd l) nmPR vNC).2
  have Y1 := Kp.mk (@adL_yes l nmPR vNC)
  have I1 := Kp.mk (@adL_is l nmPR vNC)
  have hz : vNC.size ≠ 0 := by decide
  have HZ := Kp.mk hz
  have hez := expV_size l now
  unfold RetX
  clear hv hF hz n0 n1
  generalize res2 l true now = RL at *
  generalize expV l now = EV at *
  generalize basI l now = bs at *
  generalize (ageR (ccD l)).1 = ag at *
  generalize (ageR (ccD l)).2 = aged at *
  generalize hIs l nmPR = i1 at *
  go_enter Tryz.func26, Tryz.ntmps26
  go_upto_region 1 with fail
  go_cut [5] (fun a wx => a = .bool (cHd l) ∧ Below w.heap.size w wx ∧ RdF wx (.slice av l.length cv) l)
  case first =>
    go_wp2_with fail
    refine (CH.out vNC (by decide) _ HV1.out).mono ?_
    rintro e w2 ⟨rfl, hb⟩
    replace HV1 := Kp.mk (HV1.out.below hb)
    replace HB1 := Kp.mk (HB1.out.trans (hb.mono HB1.out.size))
    clear hb
    generalize cHas l vNC = b1 at *
    cases b1
    · go_wp2_with fail
      refine (CH.out vNS (by decide) _ HV1.out).mono ?_
      rintro e w3 ⟨rfl, hb⟩
      replace HV1 := Kp.mk (HV1.out.below hb)
      replace HB1 := Kp.mk (HB1.out.trans (hb.mono HB1.out.size))
      clear hb
      generalize cHas l vNS = b2 at *
      cases b2
      · go_wp2_with fail
        refine (CH.out vPV (by decide) _ HV1.out).mono ?_
        rintro e w4 ⟨rfl, hb⟩
        replace HV1 := Kp.mk (HV1.out.below hb)
        replace HB1 := Kp.mk (HB1.out.trans (hb.mono HB1.out.size))
        clear hb
        generalize cHas l vPV = b3 at *
        have HE := Kp.mk (show cHd l = b3 from HHD.out)
        go_wp2_with fail
        go_meet
        exact ⟨by rw [HE.out], HB1.out, HV1.out⟩
      · have HE := Kp.mk (show cHd l = true from HHD.out)
        go_wp2_with fail
        go_meet
        exact ⟨by rw [HE.out], HB1.out, HV1.out⟩
    · have HE := Kp.mk (show cHd l = true from HHD.out)
      go_wp2_with fail
      go_meet
      exact ⟨by rw [HE.out], HB1.out, HV1.out⟩
  case rest =>
    obtain ⟨rfl, hb, hr⟩ := hcut
    replace HB1 := Kp.mk hb
    replace HV1 := Kp.mk hr
    clear hb hr CH HHD
    generalize cHd l = H at *
    go_wp2_with fail
    refine (CA.out _ HV1.out).mono ?_
    rintro e w5 ⟨rfl, hb⟩
    replace HV1 := Kp.mk (HV1.out.below hb)
    replace HB1 := Kp.mk (HB1.out.trans (hb.mono HB1.out.size))
    clear hb
    go_wp2_with fail
    refine (CS.out _ HV1.out).mono ?_
    rintro e w6 ⟨rfl, hb⟩
    replace HV1 := Kp.mk (HV1.out.below hb)
    replace HB1 := Kp.mk (HB1.out.trans (hb.mono HB1.out.size))
    clear hb
    generalize datS l nmDT now = DD at *
    obtain ⟨d1, d2⟩ := DD
    go_upto_if 34 with fail
    go_cut [8] (fun a wx => a = .int .i64 bs ∧ Below w.heap.size w wx ∧ RdF wx (.slice av l.length cv) l)
    case first =>
      cases d2
      · obtain rfl : bs = now := HBS.out
        go_wp2_with fail
        go_meet
        exact ⟨rfl, HB1.out, HV1.out⟩
      · obtain rfl : bs = d1 := HBS.out
        go_wp2_with fail
        go_meet
        exact ⟨rfl, HB1.out, HV1.out⟩
    case rest =>
      obtain ⟨rfl, hb, hr⟩ := hcut
      replace HB1 := Kp.mk hb
      replace HV1 := Kp.mk hr
      clear hb hr HBS CA CS
      cases H
      · have HR2 := Kp.mk (show RL = adL l aged nmEX EV from HR.out)
        have HI2 := Kp.mk (fun (b : Bool) (h : hIs l nmEX = b) => h)
        have HO := HV1
        clear Y1 I1 HI HR E1 P1 C3
        go_wp2_with fail
        refine (C4.out _ HV1.out).mono ?_
        rintro e w20 ⟨rfl, hb⟩
        replace HV1 := Kp.mk (HV1.out.below hb)
        replace HO := Kp.mk (HO.out.below hb)
        replace HB1 := Kp.mk (HB1.out.trans (hb.mono HB1.out.size))
        clear hb
        cases hi : hIs l nmEX
        rotate_left
        · have HE := Kp.mk (show RL = l by rw [HR2.out]; exact adL_any_is (HI2.out _ hi))
          go_wp2_with fail
          go_ret
          exact ⟨_, rfl, by rw [HE.out]; exact HO.out, HB1.out⟩
        have HE0 := Kp.mk (fun hx => HR2.out.trans (adL_emp (m := l) (n := nmEX) (x := EV) hx))
        have HEY := Kp.mk (HI2.out _ hi)
        cases aged
        · have HE := Kp.mk (show RL = l from HR2.out)
          go_wp2_with fail
          go_ret
          exact ⟨_, rfl, by rw [HE.out]; exact HO.out, HB1.out⟩
        by_cases hbig : 253402300799 < bs
        · have HE := Kp.mk (HE0.out (E2.out (by trivial) (by omega)))
          go_wp2_with fail
          go_ret
          exact ⟨_, rfl, by rw [HE.out]; exact HO.out, HB1.out⟩
        obtain ⟨e3, hw⟩ := E3.out (by trivial) (by omega)
        subst e3
        have P3 := Kp.mk (fun w => P2.out w (by omega))
        have HEY2 := Kp.mk (fun hx => HR2.out.trans (adL_yes (m := l) (n := nmEX) (x := prtB (bs + ag)) HEY.out hx))
        generalize prtB (bs + ag) = PV at *
        go_wp2_with fail
        refine (P3.out _).mono ?_
        rintro e w21 ⟨rfl, hb⟩
        replace HV1 := Kp.mk (HV1.out.below hb)
        replace HO := Kp.mk (HO.out.below hb)
        replace HB1 := Kp.mk (HB1.out.trans (hb.mono HB1.out.size))
        clear hb
        by_cases hx : PV.size = 0
        · have HE := Kp.mk (HE0.out hx)
          obtain rfl : PV = ⟨#[]⟩ := emp_ofX hx
          go_wp2_with fail
          go_ret
          exact ⟨_, rfl, by rw [HE.out]; exact HO.out, HB1.out⟩
        obtain ⟨t1, t2⟩ := emp_neX hx
        have HE := Kp.mk (HEY2.out hx)
        have HO1 := HO
        go_wp2_with fail
        refine (rhwith_any _ l _ _ _ HO1.out (by first | omega | (simp; omega))).mono ?_
        rintro e w22 ⟨u, rfl, ho, hb⟩
        have HO := Kp.mk (rdf_own ho)
        replace HV1 := Kp.mk (HV1.out.below hb)
        replace HB1 := Kp.mk (HB1.out.trans (hb.mono HB1.out.size))
        clear ho hb
        obtain ⟨a9, c9, hu⟩ := rdf_form HO.out
        have hu2 : u = .slice a9 (l.length + 1) c9 := by rw [hu]; simp
        clear hu
        subst hu2
        go_wp2_with fail
        go_ret
        exact ⟨_, rfl, by rw [HE.out]; exact HO.out, HB1.out⟩
      · have HR1 := Kp.mk (show RL = adL (adL l true nmPR vNC) true nmEX EV from HR.out)
        go_wp2_with fail
        refine (C3.out _ HV1.out).mono ?_
        rintro e w12 ⟨rfl, hb⟩
        replace HV1 := Kp.mk (HV1.out.below hb)
        replace HB1 := Kp.mk (HB1.out.trans (hb.mono HB1.out.size))
        clear hb
        cases i1
        · have hM : adL l true nmPR vNC = l ++ [(nmPR, vNC)] := Y1.out rfl HZ.out
          have HR2 := Kp.mk (show RL = adL (l ++ [(nmPR, vNC)]) true nmEX EV by rw [HR1.out, hM])
          have HI2 := Kp.mk (fun (b : Bool) (h : hIs l nmEX = b) => (hIs_snoc (m := l) (n := nmPR) (x := vNC) fold_PE).trans h)
          clear hM Y1 I1 HI HR HR1 E2 E3 P2 C3
          go_wp2_with fail
          refine (rhwith_any _ l _ _ _ HV1.out (by omega)).mono ?_
          rintro e w13 ⟨u, rfl, ho, hb⟩
          have HO := Kp.mk (rdf_own ho)
          replace HV1 := Kp.mk (HV1.out.below hb)
          replace HB1 := Kp.mk (HB1.out.trans (hb.mono HB1.out.size))
          clear ho hb
          obtain ⟨a9, c9, hu⟩ := rdf_form HO.out
          have hu2 : u = .slice a9 (l.length + 1) c9 := by rw [hu]; simp
          clear hu
          subst hu2
          go_wp2_with fail
          refine (C4.out _ HV1.out).mono ?_
          rintro e w20 ⟨rfl, hb⟩
          replace HV1 := Kp.mk (HV1.out.below hb)
          replace HO := Kp.mk (HO.out.below hb)
          replace HB1 := Kp.mk (HB1.out.trans (hb.mono HB1.out.size))
          clear hb
          cases hi : hIs l nmEX
          rotate_left
          · have HE := Kp.mk (show RL = (l ++ [(nmPR, vNC)]) by rw [HR2.out]; exact adL_any_is (HI2.out _ hi))
            go_wp2_with fail
            go_ret
            exact ⟨_, rfl, by rw [HE.out]; exact HO.out, HB1.out⟩
          have HE0 := Kp.mk (fun hx => HR2.out.trans (adL_emp (m := (l ++ [(nmPR, vNC)])) (n := nmEX) (x := EV) hx))
          have HEY := Kp.mk (HI2.out _ hi)
          obtain rfl : EV = prtB bs := E1.out (by trivial)
          have HEY2 := Kp.mk (fun hx => HR2.out.trans (adL_yes (m := (l ++ [(nmPR, vNC)])) (n := nmEX) (x := prtB bs) HEY.out hx))
          generalize prtB bs = PV at *
          go_wp2_with fail
          refine (P1.out _).mono ?_
          rintro e w21 ⟨rfl, hb⟩
          replace HV1 := Kp.mk (HV1.out.below hb)
          replace HO := Kp.mk (HO.out.below hb)
          replace HB1 := Kp.mk (HB1.out.trans (hb.mono HB1.out.size))
          clear hb
          by_cases hx : PV.size = 0
          · have HE := Kp.mk (HE0.out hx)
            obtain rfl : PV = ⟨#[]⟩ := emp_ofX hx
            go_wp2_with fail
            go_ret
            exact ⟨_, rfl, by rw [HE.out]; exact HO.out, HB1.out⟩
          obtain ⟨t1, t2⟩ := emp_neX hx
          have HE := Kp.mk (HEY2.out hx)
          have HO1 := HO
          go_wp2_with fail
          refine (rhwith_any _ (l ++ [(nmPR, vNC)]) _ _ _ HO1.out (by first | omega | (simp; omega))).mono ?_
          rintro e w22 ⟨u, rfl, ho, hb⟩
          have HO := Kp.mk (rdf_own ho)
          replace HV1 := Kp.mk (HV1.out.below hb)
          replace HB1 := Kp.mk (HB1.out.trans (hb.mono HB1.out.size))
          clear ho hb
          obtain ⟨a9, c9, hu⟩ := rdf_form HO.out
          have hu2 : u = .slice a9 (l.length + 1 + 1) c9 := by rw [hu]; simp
          clear hu
          subst hu2
          go_wp2_with fail
          go_ret
          exact ⟨_, rfl, by rw [HE.out]; exact HO.out, HB1.out⟩
        · have hM : adL l true nmPR vNC = l := I1.out rfl
          have HR2 := Kp.mk (show RL = adL l true nmEX EV by rw [HR1.out, hM])
          have HI2 := Kp.mk (fun (b : Bool) (h : hIs l nmEX = b) => h)
          have HO := HV1
          clear hM Y1 I1 HI HR HR1 E2 E3 P2 C3
          go_wp2_with fail
          refine (C4.out _ HV1.out).mono ?_
          rintro e w20 ⟨rfl, hb⟩
          replace HV1 := Kp.mk (HV1.out.below hb)
          replace HO := Kp.mk (HO.out.below hb)
          replace HB1 := Kp.mk (HB1.out.trans (hb.mono HB1.out.size))
          clear hb
          cases hi : hIs l nmEX
          rotate_left
          · have HE := Kp.mk (show RL = l by rw [HR2.out]; exact adL_any_is (HI2.out _ hi))
            go_wp2_with fail
            go_ret
            exact ⟨_, rfl, by rw [HE.out]; exact HO.out, HB1.out⟩
          have HE0 := Kp.mk (fun hx => HR2.out.trans (adL_emp (m := l) (n := nmEX) (x := EV) hx))
          have HEY := Kp.mk (HI2.out _ hi)
          obtain rfl : EV = prtB bs := E1.out (by trivial)
          have HEY2 := Kp.mk (fun hx => HR2.out.trans (adL_yes (m := l) (n := nmEX) (x := prtB bs) HEY.out hx))
          generalize prtB bs = PV at *
          go_wp2_with fail
          refine (P1.out _).mono ?_
          rintro e w21 ⟨rfl, hb⟩
          replace HV1 := Kp.mk (HV1.out.below hb)
          replace HO := Kp.mk (HO.out.below hb)
          replace HB1 := Kp.mk (HB1.out.trans (hb.mono HB1.out.size))
          clear hb
          by_cases hx : PV.size = 0
          · have HE := Kp.mk (HE0.out hx)
            obtain rfl : PV = ⟨#[]⟩ := emp_ofX hx
            go_wp2_with fail
            go_ret
            exact ⟨_, rfl, by rw [HE.out]; exact HO.out, HB1.out⟩
          obtain ⟨t1, t2⟩ := emp_neX hx
          have HE := Kp.mk (HEY2.out hx)
          have HO1 := HO
          go_wp2_with fail
          refine (rhwith_any _ l _ _ _ HO1.out (by first | omega | (simp; omega))).mono ?_
          rintro e w22 ⟨u, rfl, ho, hb⟩
          have HO := Kp.mk (rdf_own ho)
          replace HV1 := Kp.mk (HV1.out.below hb)
          replace HB1 := Kp.mk (HB1.out.trans (hb.mono HB1.out.size))
          clear ho hb
          obtain ⟨a9, c9, hu⟩ := rdf_form HO.out
          have hu2 : u = .slice a9 (l.length + 1) c9 := by rw [hu]; simp
          clear hu
          subst hu2
          go_wp2_with fail
          go_ret
          exact ⟨_, rfl, by rw [HE.out]; exact HO.out, HB1.out⟩
theorem sta_cases (n : Int) : (n < 0 ∧ max 0 (min n 2147483647) = 0) ∨ (¬ n < 0 ∧ 2147483647 < n ∧ max 0 (min n 2147483647) = 2147483647) ∨ (¬ n < 0 ∧ ¬ 2147483647 < n ∧ max 0 (min n 2147483647) = n) := by omega
set_option maxRecDepth 100000 in
set_option maxHeartbeats 2000000 in
theorem rnewer_any (v : Value) (l : List Fld) (now : Int) (w : World) (hv : RdF w v l) (hF : FewF l) (n0 : -9223372036854775808 ≤ now) (n1 : now ≤ 9223372036854775807) :
    Calls Tryz.prog 27 #[v, .int .i64 now] w (RetX (res4 l l true now) w) := by
  have hl := hF.len
  obtain ⟨av, cv, rfl⟩ := rdf_form hv
  have HV1 := Kp.mk hv
  have HB1 := Kp.mk (Below.refl w.heap.size w)
  have C1 := Kp.mk (fun w hv => show Calls Tryz.prog 16 #[.slice av l.length cv] w fun e w' => e = .returned (.bool (cPr l)) ∧ Below w.heap.size w w' from rprag_any _ l w hv hF)
  have C2 := Kp.mk (fun w hv => rcxsec_any (.slice av l.length cv) l nmEX now w hv hF (by decide) n0 n1)
  have C3 := Kp.mk (fun w hv => rcxsec_any (.slice av l.length cv) l nmDT now w hv hF (by decide) n0 n1)
  have C4 := Kp.mk (fun w hv => rcxnone_any (.slice av l.length cv) l nmCC w hv hF (by decide))
  have HR := Kp.mk (show res4 l l true now = adL (adL l (cPr l) nmCC vNC) true nmCC (freV l now) from rfl)
  have HFV := Kp.mk (show freV l now = if ((datS l nmDT now).2 && (datS l nmEX now).2) = true then vMX ++ ofL (textL (max 0 (min ((datS l nmEX now).1 - (datS l nmDT now).1) 2147483647))) else ⟨#[]⟩ from rfl)
  have h1 := datS_ok (l := l) (nm := nmDT) (now := now)
  have h2 := datS_ok (l := l) (nm := nmEX) (now := now)
  have HZ := Kp.mk (show vNC.size ≠ 0 by decide)
  unfold RetX
  clear hv hF n0 n1
  generalize res4 l l true now = RL at *
  generalize freV l now = FV at *
  generalize cPr l = P at *
  generalize datS l nmDT now = D at *
  generalize datS l nmEX now = E at *
  obtain ⟨d1, d2⟩ := D
  obtain ⟨e1, e2⟩ := E
  dsimp only at h1 h2 HFV C2 C3
  go_enter Tryz.func27, Tryz.ntmps27
  go_wp2_with fail
  refine (C4.out _ HV1.out).mono ?_
  rintro e w2 ⟨rfl, hb⟩
  replace HV1 := Kp.mk (HV1.out.below hb)
  replace HB1 := Kp.mk (HB1.out.trans (hb.mono HB1.out.size))
  clear hb
  cases hi : hIs l nmCC
  rotate_left
  · have HE := Kp.mk (show RL = l by rw [HR.out, adL_any_is (m := l) hi]; exact adL_is hi)
    go_wp2_with fail
    go_ret
    exact ⟨_, rfl, by rw [HE.out]; exact HV1.out, HB1.out⟩
  go_wp2_with fail
  refine (C1.out _ HV1.out).mono ?_
  rintro e w3 ⟨rfl, hb⟩
  replace HV1 := Kp.mk (HV1.out.below hb)
  replace HB1 := Kp.mk (HB1.out.trans (hb.mono HB1.out.size))
  clear hb
  cases P
  rotate_left
  · have HE := Kp.mk (show RL = l ++ [(nmCC, vNC)] by rw [HR.out, adL_yes hi HZ.out]; exact adL_is (hIs_own fold_CC))
    go_wp2_with fail
    refine (rhwith_any _ l _ _ _ HV1.out (by omega)).mono ?_
    rintro e w29 ⟨u, rfl, ho, hb⟩
    have HO := Kp.mk (rdf_own ho)
    replace HV1 := Kp.mk (HV1.out.below hb)
    replace HB1 := Kp.mk (HB1.out.trans (hb.mono HB1.out.size))
    clear ho hb
    obtain ⟨a9, c9, hu⟩ := rdf_form HO.out
    have hu2 : u = .slice a9 (l.length + 1) c9 := by rw [hu]; simp
    clear hu
    subst hu2
    go_wp2_with fail
    go_ret
    exact ⟨_, rfl, by rw [HE.out]; exact HO.out, HB1.out⟩
  have HR2 := Kp.mk (show RL = adL l true nmCC FV from HR.out)
  go_wp2_with fail
  refine (C2.out _ HV1.out).mono ?_
  rintro e w4 ⟨rfl, hb⟩
  replace HV1 := Kp.mk (HV1.out.below hb)
  replace HB1 := Kp.mk (HB1.out.trans (hb.mono HB1.out.size))
  clear hb
  go_wp2_with fail
  refine (C3.out _ HV1.out).mono ?_
  rintro e w5 ⟨rfl, hb⟩
  replace HV1 := Kp.mk (HV1.out.below hb)
  replace HB1 := Kp.mk (HB1.out.trans (hb.mono HB1.out.size))
  clear hb
  cases e2
  · have hf0 : FV = ⟨#[]⟩ := by rw [HFV.out]; cases d2 <;> rfl
    have HE := Kp.mk (show RL = l by rw [HR2.out, hf0]; exact adL_emp rfl)
    go_wp2_with fail
    go_ret
    exact ⟨_, rfl, by rw [HE.out]; exact HV1.out, HB1.out⟩
  cases d2
  · have hf0 : FV = ⟨#[]⟩ := HFV.out
    have HE := Kp.mk (show RL = l by rw [HR2.out, hf0]; exact adL_emp rfl)
    go_wp2_with fail
    go_ret
    exact ⟨_, rfl, by rw [HE.out]; exact HV1.out, HB1.out⟩
  have h1 := h1 rfl
  have h2 := h2 rfl
  have hw : IntKind.i64.wrap (e1 - d1) = e1 - d1 := by simp [IntKind.wrap, IntKind.signed, IntKind.bits, wrap64]; omega
  have HF2 := Kp.mk (show FV = vMX ++ ofL (textL (max 0 (min (e1 - d1) 2147483647))) from HFV.out)
  have hc := sta_cases (e1 - d1)
  generalize hn9 : e1 - d1 = n9 at *
  rcases hc with ⟨g1, g2⟩ | ⟨g1, g2, g3⟩ | ⟨g1, g2, g3⟩
  · rw [g2] at HF2
    have HT := Kp.mk (fun w => rtext_any (0) w (by omega) (by omega))
    have hz : (ofL (textL (0))).size ≤ 21 := by rw [ofL_size]; exact textL_len _
    have HE := Kp.mk (show RL = l ++ [(nmCC, vMX ++ ofL (textL (0)))] by rw [HR2.out, HF2.out]; exact adL_yes hi (by rw [ByteArray.size_append]; have : vMX.size = 8 := rfl; omega))
    clear HR HR2 HFV HF2
    generalize ofL (textL (0)) = TX at *
    go_wp2_with fail
    refine (HT.out _).mono ?_
    rintro e w6 ⟨rfl, hb⟩
    replace HV1 := Kp.mk (HV1.out.below hb)
    replace HB1 := Kp.mk (HB1.out.trans (hb.mono HB1.out.size))
    clear hb
    go_wp2_with fail
    refine (rhwith_any _ l _ _ _ HV1.out (by omega)).mono ?_
    rintro e w29 ⟨u, rfl, ho, hb⟩
    have HO := Kp.mk (rdf_own ho)
    replace HV1 := Kp.mk (HV1.out.below hb)
    replace HB1 := Kp.mk (HB1.out.trans (hb.mono HB1.out.size))
    clear ho hb
    obtain ⟨a9, c9, hu⟩ := rdf_form HO.out
    have hu2 : u = .slice a9 (l.length + 1) c9 := by rw [hu]; simp
    clear hu
    subst hu2
    go_wp2_with fail
    go_ret
    exact ⟨_, rfl, by rw [HE.out]; exact HO.out, HB1.out⟩
  · rw [g3] at HF2
    have HT := Kp.mk (fun w => rtext_any (2147483647) w (by omega) (by omega))
    have hz : (ofL (textL (2147483647))).size ≤ 21 := by rw [ofL_size]; exact textL_len _
    have HE := Kp.mk (show RL = l ++ [(nmCC, vMX ++ ofL (textL (2147483647)))] by rw [HR2.out, HF2.out]; exact adL_yes hi (by rw [ByteArray.size_append]; have : vMX.size = 8 := rfl; omega))
    clear HR HR2 HFV HF2
    generalize ofL (textL (2147483647)) = TX at *
    go_wp2_with fail
    refine (HT.out _).mono ?_
    rintro e w6 ⟨rfl, hb⟩
    replace HV1 := Kp.mk (HV1.out.below hb)
    replace HB1 := Kp.mk (HB1.out.trans (hb.mono HB1.out.size))
    clear hb
    go_wp2_with fail
    refine (rhwith_any _ l _ _ _ HV1.out (by omega)).mono ?_
    rintro e w29 ⟨u, rfl, ho, hb⟩
    have HO := Kp.mk (rdf_own ho)
    replace HV1 := Kp.mk (HV1.out.below hb)
    replace HB1 := Kp.mk (HB1.out.trans (hb.mono HB1.out.size))
    clear ho hb
    obtain ⟨a9, c9, hu⟩ := rdf_form HO.out
    have hu2 : u = .slice a9 (l.length + 1) c9 := by rw [hu]; simp
    clear hu
    subst hu2
    go_wp2_with fail
    go_ret
    exact ⟨_, rfl, by rw [HE.out]; exact HO.out, HB1.out⟩
  · rw [g3] at HF2
    have HT := Kp.mk (fun w => rtext_any (n9) w (by omega) (by omega))
    have hz : (ofL (textL (n9))).size ≤ 21 := by rw [ofL_size]; exact textL_len _
    have HE := Kp.mk (show RL = l ++ [(nmCC, vMX ++ ofL (textL (n9)))] by rw [HR2.out, HF2.out]; exact adL_yes hi (by rw [ByteArray.size_append]; have : vMX.size = 8 := rfl; omega))
    clear HR HR2 HFV HF2
    generalize ofL (textL (n9)) = TX at *
    go_wp2_with fail
    refine (HT.out _).mono ?_
    rintro e w6 ⟨rfl, hb⟩
    replace HV1 := Kp.mk (HV1.out.below hb)
    replace HB1 := Kp.mk (HB1.out.trans (hb.mono HB1.out.size))
    clear hb
    go_wp2_with fail
    refine (rhwith_any _ l _ _ _ HV1.out (by omega)).mono ?_
    rintro e w29 ⟨u, rfl, ho, hb⟩
    have HO := Kp.mk (rdf_own ho)
    replace HV1 := Kp.mk (HV1.out.below hb)
    replace HB1 := Kp.mk (HB1.out.trans (hb.mono HB1.out.size))
    clear ho hb
    obtain ⟨a9, c9, hu⟩ := rdf_form HO.out
    have hu2 : u = .slice a9 (l.length + 1) c9 := by rw [hu]; simp
    clear hu
    subst hu2
    go_wp2_with fail
    go_ret
    exact ⟨_, rfl, by rw [HE.out]; exact HO.out, HB1.out⟩
set_option maxRecDepth 100000 in
set_option maxHeartbeats 1000000 in
theorem rcxres_any (v : Value) (l : List Fld) (f t now : Int) (w : World) (hv : RdF w v l) (hF : FewF l) (n0 : -9223372036854775808 ≤ now) (n1 : now ≤ 9223372036854775807) :
    Calls Tryz.prog 11 #[v, .int .i64 f, .int .i64 t, .int .i64 now] w (RetX (resL l f t now) w) := by
  have HV1 := Kp.mk hv
  have CO := Kp.mk (rolder_any v l now w hv hF n0 n1)
  have CN := Kp.mk (rnewer_any v l now w hv hF n0 n1)
  obtain ⟨av, cv, rfl⟩ := rdf_form hv
  have HR := Kp.mk (show resL l f t now = res4 l (res2 l (decide (0 < f) && decide (t ≤ 0)) now) (decide (f ≤ 0) && decide (0 < t)) now from rfl)
  have Z1 := Kp.mk (fun m => show res4 l m false now = m from rfl)
  have Z2 := Kp.mk (show res2 l false now = l from rfl)
  unfold RetX at CO CN ⊢
  generalize resL l f t now = RL at *
  clear hv hF n0 n1
  go_enter Tryz.func11, Tryz.ntmps11
  by_cases hf : f ≤ 0
  · by_cases ht : 0 < t
    · have a1 : ¬ 0 < f := by omega
      have a2 : ¬ t < 1 := by omega
      have a3 : f < 1 := by omega
      have a4 : ¬ t ≤ 0 := by omega
      have HE := Kp.mk (show RL = res4 l l true now by rw [HR.out]; simp only [a1, hf, ht, a4, decide_true, decide_false, Bool.false_and, Bool.true_and, Z2.out])
      rw [← HE.out] at CN
      go_wp2_with fail
      refine CN.out.mono ?_
      rintro e w1 ⟨u, rfl, hr, hb⟩
      have HB := Kp.mk hb
      have HU := Kp.mk hr
      obtain ⟨a, c, rfl⟩ := rdf_form hr
      clear hr hb
      go_wp2_with fail
      go_ret
      exact ⟨_, rfl, HU.out, HB.out⟩
    · have a1 : ¬ 0 < f := by omega
      have a2 : f < 1 := by omega
      have HE := Kp.mk (show RL = l by rw [HR.out]; simp only [a1, hf, ht, decide_true, decide_false, Bool.false_and, Bool.true_and, Z2.out, Z1.out])
      go_wp2_with fail
      go_ret
      exact ⟨_, rfl, by rw [HE.out]; exact HV1.out, Below.refl _ _⟩
  · by_cases ht : 0 < t
    · have a1 : 0 < f := by omega
      have a2 : ¬ f < 1 := by omega
      have a3 : ¬ t < 1 := by omega
      have a4 : ¬ t ≤ 0 := by omega
      have HE := Kp.mk (show RL = l by rw [HR.out]; simp only [a1, hf, ht, a4, decide_true, decide_false, Bool.false_and, Bool.true_and, Z2.out, Z1.out])
      go_wp2_with fail
      go_ret
      exact ⟨_, rfl, by rw [HE.out]; exact HV1.out, Below.refl _ _⟩
    · have a1 : 0 < f := by omega
      have a2 : t < 1 := by omega
      have a3 : t ≤ 0 := by omega
      have HE := Kp.mk (show RL = res2 l true now by rw [HR.out]; simp only [a1, hf, ht, a3, decide_true, decide_false, Bool.false_and, Bool.true_and, Z1.out])
      rw [← HE.out] at CO
      go_wp2_with fail
      refine CO.out.mono ?_
      rintro e w1 ⟨u, rfl, hr, hb⟩
      have HB := Kp.mk hb
      have HU := Kp.mk hr
      obtain ⟨a, c, rfl⟩ := rdf_form hr
      clear hr hb
      go_wp2_with fail
      go_ret
      exact ⟨_, rfl, HU.out, HB.out⟩
theorem resL_len (l : List Fld) (f t now : Int) : l.length ≤ (resL l f t now).length ∧ (resL l f t now).length ≤ l.length + 4 := by
  unfold resL res4 res2
  generalize (decide (0 < f) && decide (t ≤ 0)) = D
  generalize (decide (f ≤ 0) && decide (0 < t)) = U
  have h1 := adL_len l (D && cHd l) nmPR vNC
  have h2 := adL_len (adL l (D && cHd l) nmPR vNC) (D && (cHd l || (ageR (ccD l)).2)) nmEX (expV l now)
  have h3 := adL_len (adL (adL l (D && cHd l) nmPR vNC) (D && (cHd l || (ageR (ccD l)).2)) nmEX (expV l now)) (U && cPr l) nmCC vNC
  have h4 := adL_len (adL (adL (adL l (D && cHd l) nmPR vNC) (D && (cHd l || (ageR (ccD l)).2)) nmEX (expV l now)) (U && cPr l) nmCC vNC) U nmCC (freV l now)
  omega
set_option maxRecDepth 100000 in
set_option maxHeartbeats 4000000 in
theorem cxress_walk (v : Value) (l : List Fld) (f t n : Int) (w : World) (hv : RdF w v l) (hz : ∀ p ∈ l, FldOk p) (n0 : -9223372036854775808 ≤ n) (n1 : n ≤ 9223372036854775807) :
    Calls Tryz.prog 4 #[v, .agg #[.int .i64 f, .int .i64 t, .int .i64 n]] w fun e w' => e = .returned (.bool true) ∧ Below w.heap.size w w' := by
  have hT := heap_alloc_new w (.cells #[.int .i64 f, .int .i64 t, .int .i64 n] 24)
  have hB := (Below.refl w.heap.size w).alloc (Nat.le_refl _) (.cells #[.int .i64 f, .int .i64 t, .int .i64 n] 24)
  have HF1 := Kp.mk (few10_any v l _ (hv.below hB) hz)
  have HT := Kp.mk hT
  have HB := Kp.mk hB
  have HV := Kp.mk hv
  clear hz hT hB
  cases hfl : hFew l
  · rw [hfl] at HF1
    clear hv
    go_enter Tryz.func4, Tryz.ntmps4
    go_wp2_with fail
    refine HF1.out.mono ?_
    rintro e w1 ⟨rfl, hb⟩
    have HB1 := Kp.mk (HB.out.trans (hb.mono HB.out.size))
    clear hb
    go_wp2_with fail
    refine (lives31_any _).mono ?_
    rintro e w9 ⟨rfl, hb9⟩
    have HB9 := Kp.mk (HB1.out.trans (hb9.mono HB1.out.size))
    clear hb9
    go_wp2_with fail
    go_ret
    exact ⟨rfl, HB9.out⟩
  · rw [hfl] at HF1
    have hF := fewF_of hfl
    have hl := hF.len
    have C1 := Kp.mk (fun w v hv => cxres_any v l f t n w hv hF n0 n1)
    have C2 := Kp.mk (fun w v hv => rcxres_any v l f t n w hv hF n0 n1)
    have hml := resL_len l f t n
    have hml : (resL l f t n).length ≤ 1000000 := by omega
    unfold RetX at C1 C2
    generalize resL l f t n = M at *
    have HSM := Kp.mk (show sameL M M = true from decide_eq_true rfl)
    obtain ⟨av, cv, rfl⟩ := rdf_form hv
    clear hv hF hfl n0 n1
    go_enter Tryz.func4, Tryz.ntmps4
    go_wp2_with fail
    refine HF1.out.mono ?_
    rintro e w1 ⟨rfl, hb⟩
    have HB2 := Kp.mk (HB.out.trans (hb.mono HB.out.size))
    replace HB := HB2
    replace HT := Kp.mk ((hb.block _ (blk_lt HT.out)).trans HT.out)
    clear hb HB2 HF1
    go_upto_region 3 with fail
    replace HB := Kp.mk (HB.out.drew)
    replace HT := Kp.mk (blk_drewX HT.out)
    refine wp_region_held_drew (S := fun w' => w'.cell? ⟨w.heap.size, 0, none⟩ = some (.int .i64 f) ∧ w'.cell? ⟨w.heap.size, 1, none⟩ = some (.int .i64 t) ∧ w'.cell? ⟨w.heap.size, 2, none⟩ = some (.int .i64 n)) (by kernel_rfl) (⟨blk_cell (i := 0) HT.out rfl, blk_cell (i := 1) HT.out rfl, blk_cell (i := 2) HT.out rfl⟩) (fun hHeld => ?_)
    refine wpAnyH_take (i := 0) (oi := ⟨some 9, .move (.tmp 0), _, _, _, none⟩) (v := ?_) rfl (by kernel_rfl) (by kernel_rfl) (by kernel_rfl) (fun _ _ _ h => h) (Or.inl ⟨by rfl, ?_⟩) (by assumption) ?_
    rotate_left
    · intro w hSw
      try dsimp only at hSw
      go_simp
      try with_reducible rfl
    try simp only [Act.put, List.setIfInBounds_toArray, List.set_cons_zero, List.set_cons_succ]
    refine wpAnyH_take (i := 1) (oi := ⟨some 10, .fieldAddr 24 (.tmp 3) 0, _, _, _, none⟩) (v := ?_) rfl (by kernel_rfl) (by kernel_rfl) (by kernel_rfl) (fun _ _ _ h => h) (Or.inl ⟨by rfl, ?_⟩) (by assumption) ?_
    rotate_left
    · intro w hSw
      try dsimp only at hSw
      go_simp
      try with_reducible rfl
    try simp only [Act.put, List.setIfInBounds_toArray, List.set_cons_zero, List.set_cons_succ]
    refine wpAnyH_take (i := 2) (oi := ⟨some 11, .load 3 (.tmp 10), _, _, _, none⟩) (v := ?_) rfl (by kernel_rfl) (by kernel_rfl) (by kernel_rfl) (fun _ _ _ h => h) (Or.inl ⟨by rfl, ?_⟩) (by assumption) ?_
    rotate_left
    · intro w hSw
      try dsimp only at hSw
      go_simp
      try with_reducible rfl
    try simp only [Act.put, List.setIfInBounds_toArray, List.set_cons_zero, List.set_cons_succ]
    refine wpAnyH_take (i := 3) (oi := ⟨some 12, .fieldAddr 24 (.tmp 3) 1, _, _, _, none⟩) (v := ?_) rfl (by kernel_rfl) (by kernel_rfl) (by kernel_rfl) (fun _ _ _ h => h) (Or.inl ⟨by rfl, ?_⟩) (by assumption) ?_
    rotate_left
    · intro w hSw
      try dsimp only at hSw
      go_simp
      try with_reducible rfl
    try simp only [Act.put, List.setIfInBounds_toArray, List.set_cons_zero, List.set_cons_succ]
    refine wpAnyH_take (i := 4) (oi := ⟨some 13, .load 3 (.tmp 12), _, _, _, none⟩) (v := ?_) rfl (by kernel_rfl) (by kernel_rfl) (by kernel_rfl) (fun _ _ _ h => h) (Or.inl ⟨by rfl, ?_⟩) (by assumption) ?_
    rotate_left
    · intro w hSw
      try dsimp only at hSw
      go_simp
      try with_reducible rfl
    try simp only [Act.put, List.setIfInBounds_toArray, List.set_cons_zero, List.set_cons_succ]
    refine wpAnyH_take (i := 5) (oi := ⟨some 14, .fieldAddr 24 (.tmp 3) 2, _, _, _, none⟩) (v := ?_) rfl (by kernel_rfl) (by kernel_rfl) (by kernel_rfl) (fun _ _ _ h => h) (Or.inl ⟨by rfl, ?_⟩) (by assumption) ?_
    rotate_left
    · intro w hSw
      try dsimp only at hSw
      go_simp
      try with_reducible rfl
    try simp only [Act.put, List.setIfInBounds_toArray, List.set_cons_zero, List.set_cons_succ]
    refine wpAnyH_take (i := 6) (oi := ⟨some 15, .load 3 (.tmp 14), _, _, _, none⟩) (v := ?_) rfl (by kernel_rfl) (by kernel_rfl) (by kernel_rfl) (fun _ _ _ h => h) (Or.inl ⟨by rfl, ?_⟩) (by assumption) ?_
    rotate_left
    · intro w hSw
      try dsimp only at hSw
      go_simp
      try with_reducible rfl
    try simp only [Act.put, List.setIfInBounds_toArray, List.set_cons_zero, List.set_cons_succ]
    refine wpAnyH_take (i := 8) (oi := ⟨some 17, .move (.tmp 0), _, _, _, none⟩) (v := ?_) rfl (by kernel_rfl) (by kernel_rfl) (by kernel_rfl) (fun _ _ _ h => h) (Or.inl ⟨by rfl, ?_⟩) (by assumption) ?_
    rotate_left
    · intro w hSw
      try dsimp only at hSw
      go_simp
      try with_reducible rfl
    try simp only [Act.put, List.setIfInBounds_toArray, List.set_cons_zero, List.set_cons_succ]
    refine wpAnyH_take (i := 9) (oi := ⟨some 18, .fieldAddr 24 (.tmp 3) 0, _, _, _, none⟩) (v := ?_) rfl (by kernel_rfl) (by kernel_rfl) (by kernel_rfl) (fun _ _ _ h => h) (Or.inl ⟨by rfl, ?_⟩) (by assumption) ?_
    rotate_left
    · intro w hSw
      try dsimp only at hSw
      go_simp
      try with_reducible rfl
    try simp only [Act.put, List.setIfInBounds_toArray, List.set_cons_zero, List.set_cons_succ]
    refine wpAnyH_take (i := 10) (oi := ⟨some 19, .load 3 (.tmp 18), _, _, _, none⟩) (v := ?_) rfl (by kernel_rfl) (by kernel_rfl) (by kernel_rfl) (fun _ _ _ h => h) (Or.inl ⟨by rfl, ?_⟩) (by assumption) ?_
    rotate_left
    · intro w hSw
      try dsimp only at hSw
      go_simp
      try with_reducible rfl
    try simp only [Act.put, List.setIfInBounds_toArray, List.set_cons_zero, List.set_cons_succ]
    refine wpAnyH_take (i := 11) (oi := ⟨some 20, .fieldAddr 24 (.tmp 3) 1, _, _, _, none⟩) (v := ?_) rfl (by kernel_rfl) (by kernel_rfl) (by kernel_rfl) (fun _ _ _ h => h) (Or.inl ⟨by rfl, ?_⟩) (by assumption) ?_
    rotate_left
    · intro w hSw
      try dsimp only at hSw
      go_simp
      try with_reducible rfl
    try simp only [Act.put, List.setIfInBounds_toArray, List.set_cons_zero, List.set_cons_succ]
    refine wpAnyH_take (i := 12) (oi := ⟨some 21, .load 3 (.tmp 20), _, _, _, none⟩) (v := ?_) rfl (by kernel_rfl) (by kernel_rfl) (by kernel_rfl) (fun _ _ _ h => h) (Or.inl ⟨by rfl, ?_⟩) (by assumption) ?_
    rotate_left
    · intro w hSw
      try dsimp only at hSw
      go_simp
      try with_reducible rfl
    try simp only [Act.put, List.setIfInBounds_toArray, List.set_cons_zero, List.set_cons_succ]
    refine wpAnyH_take (i := 13) (oi := ⟨some 22, .fieldAddr 24 (.tmp 3) 2, _, _, _, none⟩) (v := ?_) rfl (by kernel_rfl) (by kernel_rfl) (by kernel_rfl) (fun _ _ _ h => h) (Or.inl ⟨by rfl, ?_⟩) (by assumption) ?_
    rotate_left
    · intro w hSw
      try dsimp only at hSw
      go_simp
      try with_reducible rfl
    try simp only [Act.put, List.setIfInBounds_toArray, List.set_cons_zero, List.set_cons_succ]
    refine wpAnyH_take (i := 14) (oi := ⟨some 23, .load 3 (.tmp 22), _, _, _, none⟩) (v := ?_) rfl (by kernel_rfl) (by kernel_rfl) (by kernel_rfl) (fun _ _ _ h => h) (Or.inl ⟨by rfl, ?_⟩) (by assumption) ?_
    rotate_left
    · intro w hSw
      try dsimp only at hSw
      go_simp
      try with_reducible rfl
    try simp only [Act.put, List.setIfInBounds_toArray, List.set_cons_zero, List.set_cons_succ]
    refine wpAnyH_ready (rs := [7]) (by kernel_rfl) (by simp) ?_
    refine AllReadyH.cons (o := ⟨some 16, _, _, _, _, none⟩) rfl (fun K hK => ?_) AllReadyH.nil
    go_simp
    (go_at_call 10; refine (C1.out _ _ (HV.out.below HB.out)).mono ?_; rintro e w5 ⟨u1, rfl, hr, hb⟩)
    have R1 := Kp.mk hr
    obtain ⟨a1, c1, rfl⟩ := rdf_form hr
    have HB2 := Kp.mk (HB.out.trans (hb.mono HB.out.size))
    replace HB := HB2
    replace HT := Kp.mk ((hb.block _ (blk_lt HT.out)).trans HT.out)
    clear hr hb HB2
    try go_wp2_with fail
    refine hK.out _ _ (⟨blk_cell (i := 0) HT.out rfl, blk_cell (i := 1) HT.out rfl, blk_cell (i := 2) HT.out rfl⟩) (fun hHeld2 => ?_)
    clear hK K
    try simp only [Act.put, List.setIfInBounds_toArray, List.set_cons_zero, List.set_cons_succ]
    refine wpAnyH_ready (rs := [15]) (by kernel_rfl) (by simp) ?_
    refine AllReadyH.cons (o := ⟨some 24, _, _, _, _, none⟩) rfl (fun K hK => ?_) AllReadyH.nil
    go_simp
    (go_at_call 11; refine (C2.out _ _ (HV.out.below HB.out)).mono ?_; rintro e w6 ⟨u2, rfl, hr, hb⟩)
    have R2 := Kp.mk hr
    replace R1 := Kp.mk (R1.out.below hb)
    obtain ⟨a2, c2, rfl⟩ := rdf_form hr
    have HB2 := Kp.mk (HB.out.trans (hb.mono HB.out.size))
    replace HB := HB2
    replace HT := Kp.mk ((hb.block _ (blk_lt HT.out)).trans HT.out)
    clear hr hb HB2
    try go_wp2_with fail
    refine hK.out _ _ (⟨blk_cell (i := 0) HT.out rfl, blk_cell (i := 1) HT.out rfl, blk_cell (i := 2) HT.out rfl⟩) (fun hHeld2 => ?_)
    clear hK K
    try simp only [Act.put, List.setIfInBounds_toArray, List.set_cons_zero, List.set_cons_succ]
    refine wpAnyH_ready (rs := [16]) (by kernel_rfl) (by simp) ?_
    refine AllReadyH.cons (o := ⟨some 25, _, _, _, _, none⟩) rfl (fun K hK => ?_) AllReadyH.nil
    go_simp
    (go_at_call 7; refine (rfsame_any _ _ M M _ R1.out R2.out hml hml).mono ?_; rw [HSM.out]; rintro e w7 ⟨rfl, hb⟩)
    have HB2 := Kp.mk (HB.out.trans (hb.mono HB.out.size))
    replace HB := HB2
    replace HT := Kp.mk ((hb.block _ (blk_lt HT.out)).trans HT.out)
    clear hb HB2
    try go_wp2_with fail
    refine hK.out _ _ (⟨blk_cell (i := 0) HT.out rfl, blk_cell (i := 1) HT.out rfl, blk_cell (i := 2) HT.out rfl⟩) (fun hHeld2 => ?_)
    clear hK K
    try simp only [Act.put, List.setIfInBounds_toArray, List.set_cons_zero, List.set_cons_succ]
    refine wpAnyH_take (i := 17) (oi := ⟨some 26, .move (.tmp 25), _, _, _, none⟩) (v := ?_) rfl (by kernel_rfl) (by kernel_rfl) (by kernel_rfl) (fun _ _ _ h => h) (Or.inl ⟨by rfl, ?_⟩) (by assumption) ?_
    rotate_left
    · intro w hSw
      try dsimp only at hSw
      go_simp
      try with_reducible rfl
    try simp only [Act.put, List.setIfInBounds_toArray, List.set_cons_zero, List.set_cons_succ]
    refine wpAnyH_ready (rs := [18]) (by kernel_rfl) (by simp) ?_
    refine AllReadyH.cons (o := ⟨some 27, _, _, _, _, some (17, true)⟩) rfl (fun K hK => ?_) AllReadyH.nil
    go_simp
    (go_at_call 6; refine (lives31_any _).mono ?_; rintro e w8 ⟨rfl, hb⟩)
    have HB2 := Kp.mk (HB.out.trans (hb.mono HB.out.size))
    replace HB := HB2
    replace HT := Kp.mk ((hb.block _ (blk_lt HT.out)).trans HT.out)
    clear hb HB2
    try go_wp2_with fail
    refine hK.out _ _ (⟨blk_cell (i := 0) HT.out rfl, blk_cell (i := 1) HT.out rfl, blk_cell (i := 2) HT.out rfl⟩) (fun hHeld2 => ?_)
    clear hK K
    try simp only [Act.put, List.setIfInBounds_toArray, List.set_cons_zero, List.set_cons_succ]
    refine wpAnyH_take (i := 19) (oi := ⟨some 28, .pick (.tmp 26) (.tmp 27) (.const (.bool false)), _, _, _, none⟩) (v := ?_) rfl (by kernel_rfl) (by kernel_rfl) (by kernel_rfl) (fun _ _ _ h => h) (Or.inl ⟨by rfl, ?_⟩) (by assumption) ?_
    rotate_left
    · intro w hSw
      try dsimp only at hSw
      go_simp
      try with_reducible rfl
    try simp only [Act.put, List.setIfInBounds_toArray, List.set_cons_zero, List.set_cons_succ]
    refine wpAnyH_take (i := 20) (oi := ⟨some 4, .assign (.tmp 28), _, _, _, none⟩) (v := ?_) rfl (by kernel_rfl) (by kernel_rfl) (by kernel_rfl) (fun _ _ _ h => h) (Or.inl ⟨by rfl, ?_⟩) (by assumption) ?_
    rotate_left
    · intro w hSw
      try dsimp only at hSw
      go_simp
      try with_reducible rfl
    try simp only [Act.put, List.setIfInBounds_toArray, List.set_cons_zero, List.set_cons_succ]
    refine wpAnyH_done (by kernel_rfl) ?_ _
    go_wp2_with fail
    go_ret
    exact ⟨rfl, HB.out⟩
set_option maxRecDepth 100000 in
theorem cxress_arg (v0 v1 : Value) (w : World) (h0 : Arg Tryz.prog w 22 v0) (h1 : Arg Tryz.prog w 24 v1) :
    Calls Tryz.prog 4 #[v0, v1] w fun e w' => e = .returned (.bool true) ∧ Below w.heap.size w w' := by
  obtain ⟨l, hv, hz⟩ := hlist_cx v0 w h0
  obtain ⟨f, t, n, rfl, wn⟩ := turn_arg v1 w h1
  obtain ⟨x0, x1⟩ := bounds_i64 wn
  exact cxress_walk v0 l f t n w hv hz x0 x1
end Go.Proofs.YtgamekfickheaaaGreat
