/- Dates of a head's fields (layer 30): the document's example, DatefixStays (bin/mkdfb.py). -/
import Derived.Test.YtgamekfickheaaaDfa
import Derived.Deep.RegionHeld3
namespace Go.Proofs.Ytgamekfickheaaa
open Go.RowKit
set_option linter.unusedVariables false
set_option linter.unusedSimpArgs false

theorem ofL_me (s : ByteArray) : ofL s.data.toList = s := ba_ext (by simp [ofL])
theorem dfV_again (now : Int) (p : Fld) : dfV now (dfG now p) = dfV now p := by
  unfold dfG
  cases hd : datB p.1
  · unfold dfV; simp [hd]
  · have e : dfV now p = fixF now p.2.data.toList := by unfold dfV; rw [hd]; rfl
    rw [e]
    show (if datB p.1 = true then fixF now (fixF now p.2.data.toList).data.toList else fixF now p.2.data.toList) = fixF now p.2.data.toList
    rw [if_pos hd]
    exact (fix_fix now _ _ (ofL_me _).symm).trans (ofL_me _)
theorem dfL_again (now : Int) (l : List Fld) : dfL now (dfL now l) = dfL now l := by
  unfold dfL
  rw [List.map_map]
  refine List.map_congr_left fun p hp => ?_
  show (p.1, dfV now (dfG now p)) = (p.1, dfV now p)
  rw [dfV_again]
theorem dfV_dated {now : Int} {nm x : ByteArray} (h : dfV now (nm, x) ≠ x) : datB nm = true := by
  cases hd : datB nm
  · exact absurd (show dfV now (nm, x) = x by unfold dfV; rw [hd]; rfl) h
  · rfl
theorem dfV_later {now : Int} (later : Int) {nm x : ByteArray} (h : dfV now (nm, x) ≠ x) : fixF later (dfV now (nm, x)).data.toList = dfV now (nm, x) := by
  have hd := dfV_dated h
  have e : dfV now (nm, x) = fixF now x.data.toList := by unfold dfV; rw [hd]; rfl
  rw [e] at h ⊢
  exact (fix_later now later _ _ (ofL_me _).symm (fun h2 => h (ba_ext h2))).trans (ofL_me _)
theorem len_prtD (n : Int) : (pcAcc n 18).length ≤ 1000 := by
  have h := wd3_len _ (wkN_lt n)
  have h2 : (moS (dyM n - 1).toNat).data.toList.length ≤ 9 := by have := moS_le (dyM n - 1).toNat; rw [ba_size'] at this; omega
  have a := padL_len (dyD n) 2
  have b := padL_len (dyY n) 4
  have c := padL_len (dH n) 2
  have d := padL_len (dM n) 2
  have e := padL_len (dS n) 2
  simp only [pcAcc, pcL, List.length_append, List.length_cons, List.length_nil]
  omega
theorem dfV_size (now : Int) (p : Fld) (h : p.2.size ≤ 100000) : (dfV now p).size ≤ 100000 := by
  unfold dfV
  split
  · rcases fixF_cases now p.2.data.toList with ⟨e, _⟩ | ⟨n, _, e⟩
    · rw [e, ofL_me]; exact h
    · rw [e, ofL_size]; have := len_prtD n; omega
  · exact h
theorem dfL_sm {now : Int} {l : List Fld} (h : ∀ p ∈ l, FldSm p) : ∀ p ∈ dfL now l, FldSm p := by
  intro p hp
  unfold dfL at hp
  obtain ⟨q, hq, rfl⟩ := List.mem_map.1 hp
  exact ⟨(h q hq).1, dfV_size now q (h q hq).2⟩
def sun3L : List UInt8 := [83, 117, 110, 32, 78, 111, 118, 32, 32, 54, 32, 48, 56, 58, 52, 57, 58, 51, 55, 32, 49, 57, 57, 52]
theorem sun3_0 : allS (patS 0).data.toList (fd0 sun3L) = none := by decide +kernel
theorem sun3_1 : allS (patS 1).data.toList (fd0 sun3L) = none := by decide +kernel
theorem sun3_2 : allS (patS 2).data.toList (fd0 sun3L) = some ⟨[], 1994, 11, 6, 8, 49, 37, 0⟩ := by decide +kernel
theorem par_sun3 : parP 0 sun3L = (784111777, 3, 0) := by
  unfold parP
  rw [if_pos (by decide), ((parF_none (k := 0) (by decide) sun3_0).trans (parF_none (k := 1) (by decide) sun3_1)).trans (parF_some (k := 2) (by decide) sun3_2)]
  have hy : yrP 2 0 1994 = 1994 := by unfold yrP; rw [if_neg (by decide)]
  unfold endP
  rw [hy]
  decide +kernel
theorem dat_date : datB ⟨#[100, 97, 116, 101]⟩ = true := by
  refine List.any_eq_true.2 ⟨⟨#[68, 97, 116, 101]⟩, by unfold datN; exact List.mem_cons_self .., ?_⟩
  have e : lowB ⟨#[100, 97, 116, 101]⟩ = lowB ⟨#[68, 97, 116, 101]⟩ := rfl
  unfold foldB
  rw [e]
  exact beq_self_eq_true _
theorem dfL_sun : dfL 0 [(⟨#[100, 97, 116, 101]⟩, ⟨#[83, 117, 110, 32, 78, 111, 118, 32, 32, 54, 32, 48, 56, 58, 52, 57, 58, 51, 55, 32, 49, 57, 57, 52]⟩)] = [(⟨#[100, 97, 116, 101]⟩, ⟨#[83, 117, 110, 44, 32, 48, 54, 32, 78, 111, 118, 32, 49, 57, 57, 52, 32, 48, 56, 58, 52, 57, 58, 51, 55, 32, 71, 77, 84]⟩)] := by
  have e : dfV 0 (⟨#[100, 97, 116, 101]⟩, ⟨#[83, 117, 110, 32, 78, 111, 118, 32, 32, 54, 32, 48, 56, 58, 52, 57, 58, 51, 55, 32, 49, 57, 57, 52]⟩) = ⟨#[83, 117, 110, 44, 32, 48, 54, 32, 78, 111, 118, 32, 49, 57, 57, 52, 32, 48, 56, 58, 52, 57, 58, 51, 55, 32, 71, 77, 84]⟩ := by
    have h1 : dfV 0 (⟨#[100, 97, 116, 101]⟩, ⟨#[83, 117, 110, 32, 78, 111, 118, 32, 32, 54, 32, 48, 56, 58, 52, 57, 58, 51, 55, 32, 49, 57, 57, 52]⟩) = fixF 0 sun3L := if_pos dat_date
    rw [h1]
    unfold fixF
    rw [par_sun3, if_pos rfl]
    exact prt_sun
  show [((⟨#[100, 97, 116, 101]⟩ : ByteArray), dfV 0 (⟨#[100, 97, 116, 101]⟩, ⟨#[83, 117, 110, 32, 78, 111, 118, 32, 32, 54, 32, 48, 56, 58, 52, 57, 58, 51, 55, 32, 49, 57, 57, 52]⟩))] = _
  rw [e]
theorem rdf_oneD (w : World) (n x : ByteArray) : RdF (w.alloc (.cells #[.string n, .string x] 35)) (.slice (some ⟨w.heap.size, 0, none⟩) 1 1) [(n, x)] := by
  have h := heap_alloc_new w (.cells #[.string n, .string x] 35)
  refine ⟨some ⟨w.heap.size, 0, none⟩, 1, rfl, by simp, by unfold maxLen; omega, fun _ => ⟨w.heap.size, 0, rfl, blk_lt h, fun j hj i hi => ?_⟩⟩
  have hj1 : j < 1 := by simpa using hj
  obtain rfl : j = 0 := by omega
  rcases (by omega : i = 0 ∨ i = 1) with rfl | rfl
  · exact blk_cell (i := 0) h rfl
  · exact blk_cell (i := 1) h rfl
set_option maxRecDepth 100000 in
set_option maxHeartbeats 400000 in
theorem lives30_any (w : World) : Calls Try.prog 19 #[] w fun e w' => e = .returned (.bool true) ∧ Below w.heap.size w w' := by
  have HR := Kp.mk (rdf_oneD w ⟨#[100, 97, 116, 101]⟩ ⟨#[83, 117, 110, 32, 78, 111, 118, 32, 32, 54, 32, 48, 56, 58, 52, 57, 58, 51, 55, 32, 49, 57, 57, 52]⟩)
  have HB := Kp.mk ((Below.refl w.heap.size w).alloc (Nat.le_refl _) (.cells #[.string ⟨#[100, 97, 116, 101]⟩, .string ⟨#[83, 117, 110, 32, 78, 111, 118, 32, 32, 54, 32, 48, 56, 58, 52, 57, 58, 51, 55, 32, 49, 57, 57, 52]⟩] 35))
  have HL := Kp.mk dfL_sun
  have HZ := Kp.mk (show ∀ p ∈ [((⟨#[100, 97, 116, 101]⟩ : ByteArray), (⟨#[83, 117, 110, 32, 78, 111, 118, 32, 32, 54, 32, 48, 56, 58, 52, 57, 58, 51, 55, 32, 49, 57, 57, 52]⟩ : ByteArray))], FldSm p from fun p hp => by obtain rfl := List.mem_singleton.1 hp; exact ⟨by decide, by decide⟩)
  go_enter Try.func19, Try.ntmps19
  go_wp2_with fail
  refine (datefix_any _ _ 0 _ HR.out HZ.out (by simp) (by decide) (by decide)).mono ?_
  rintro e w1 ⟨u, rfl, ho, hb⟩
  rw [HL.out] at ho
  obtain ⟨a, c, rfl⟩ := own_lenH ho
  obtain ⟨g, q, rfl, -, d⟩ := rdf_cells (rdf_own ho) (by simp)
  have hd := d 0 (by simp)
  rw [Nat.zero_mul, Nat.add_zero] at hd
  obtain ⟨c1, c2⟩ := hd
  have HB1 := Kp.mk (HB.out.trans (hb.mono HB.out.size))
  clear d ho hb
  dsimp only [List.getElem_cons_zero] at c1 c2
  go_wp2_with fail
  go_ret
  exact ⟨rfl, HB1.out⟩
/-- What a round keeps. -/
structure DsC (g1 p1 g2 p2 : Nat) (nm y x : ByteArray) (v : Value) (M : List Fld) (w W : World) : Prop where
  c1 : W.cell? ⟨g1, p1, none⟩ = some (.string nm)
  c2 : W.cell? ⟨g1, p1 + 1, none⟩ = some (.string y)
  c3 : W.cell? ⟨g2, p2, none⟩ = some (.string nm)
  c4 : W.cell? ⟨g2, p2 + 1, none⟩ = some (.string x)
  rm : RdF W v M
  bel : Below w.heap.size w W
  l1 : g1 < W.heap.size
  l2 : g2 < W.heap.size
theorem DsC.below {g1 p1 g2 p2 : Nat} {nm y x : ByteArray} {v : Value} {M : List Fld} {w W W' : World} (h : DsC g1 p1 g2 p2 nm y x v M w W) (hb : Below W.heap.size W W') : DsC g1 p1 g2 p2 nm y x v M w W' :=
  ⟨(hb.cell (p := ⟨g1, _, none⟩) h.l1).trans h.c1, (hb.cell (p := ⟨g1, _, none⟩) h.l1).trans h.c2, (hb.cell (p := ⟨g2, _, none⟩) h.l2).trans h.c3, (hb.cell (p := ⟨g2, _, none⟩) h.l2).trans h.c4, h.rm.below hb, h.bel.trans (hb.mono h.bel.size), Nat.lt_of_lt_of_le h.l1 hb.size, Nat.lt_of_lt_of_le h.l2 hb.size⟩
set_option maxRecDepth 100000 in
set_option maxHeartbeats 600000 in
theorem dstays_walk (v : Value) (l : List Fld) (now later : Int) (w : World) (hv : RdF w v l) (hz : ∀ p ∈ l, FldOk p) (n0 : -9223372036854775808 ≤ now) (n1 : now ≤ 9223372036854775807) (a0 : -9223372036854775808 ≤ later) (a1 : later ≤ 9223372036854775807) :
    Calls Try.prog 5 #[v, .int .i64 now, .int .i64 later] w fun e w' => e = .returned (.bool true) ∧ Below w.heap.size w w' := by
  have HF1 := Kp.mk (few10_any v l w hv hz)
  have HV := Kp.mk hv
  clear hz
  cases hfl : hFew l
  · rw [hfl] at HF1
    clear hv
    go_enter Try.func5, Try.ntmps5
    go_wp2_with fail
    refine HF1.out.mono ?_
    rintro e w1 ⟨rfl, hb⟩
    have HB1 := Kp.mk hb
    clear hb
    go_wp2_with fail
    refine (lives30_any _).mono ?_
    rintro e w9 ⟨rfl, hb9⟩
    have HB9 := Kp.mk (HB1.out.trans (hb9.mono HB1.out.size))
    clear hb9
    go_wp2_with fail
    go_ret
    exact ⟨rfl, HB9.out⟩
  · rw [hfl] at HF1
    obtain ⟨hl, hsm⟩ := hFew_out hfl
    have HP := Kp.mk (fun w v hv => datefix_any v l now w hv hsm (by omega) n0 n1)
    have hml : (dfL now l).length = l.length := List.length_map _
    have HP2 := Kp.mk (fun w v (hv : RdF w v (dfL now l)) => by
      have := datefix_any v (dfL now l) now w hv (dfL_sm hsm) (by omega) n0 n1
      rw [dfL_again] at this
      exact this)
    have HAT := Kp.mk (show ∀ (j : Nat) (h : j < l.length) (h2 : j < (dfL now l).length), (dfL now l)[j] = (l[j].1, dfV now l[j]) from fun j h h2 => by simp only [dfL, List.getElem_map]; rfl)
    have HFX := Kp.mk (fun (x : ByteArray) w (hx : x.size ≤ 100000) => hdfix_any later x.data.toList w (by rw [← ba_size']; exact hx) a0 a1)
    have HSM := Kp.mk hsm
    obtain ⟨al, cl, rfl, -, -, -⟩ := hv
    generalize hM : dfL now l = M at *
    have HML := Kp.mk hml
    have hM40 : M.length ≤ 40 := by omega
    clear hsm hfl hM hml n0 n1 a0 a1
    go_enter Try.func5, Try.ntmps5
    go_wp2_with fail
    refine HF1.out.mono ?_
    rintro e w1 ⟨rfl, hb⟩
    have HB1 := Kp.mk hb
    clear hb
    go_wp2_with fail
    refine (HP.out _ _ (HV.out.below HB1.out)).mono ?_
    rintro e w2 ⟨u, rfl, ho, hb⟩
    have HB2 := Kp.mk (HB1.out.trans (hb.mono HB1.out.size))
    have RM := Kp.mk (rdf_own ho)
    obtain ⟨am, cm, rfl⟩ := own_lenH ho
    have hlen : ((M.length : Int) != (l.length : Int)) = false := by rw [HML.out]; simp
    clear ho hb
    go_wp2_with fail
    refine (HP2.out _ _ RM.out).mono ?_
    rintro e w3 ⟨u3, rfl, ho, hb⟩
    have HB3 := Kp.mk (HB2.out.trans (hb.mono HB2.out.size))
    have RM3 := Kp.mk (RM.out.below hb)
    have RN := Kp.mk (rdf_own ho)
    obtain ⟨an, cn, rfl⟩ := own_lenH ho
    clear ho hb
    go_wp2_with fail
    refine (rfsame_any _ _ M M _ RN.out RM3.out (by omega) (by omega)).mono ?_
    have hsame : sameL M M = true := decide_eq_true rfl
    rw [hsame]
    rintro e w4 ⟨rfl, hb⟩
    have HB4 := Kp.mk (HB3.out.trans (hb.mono HB3.out.size))
    have RM4 := Kp.mk (RM3.out.below hb)
    clear hb RN RM RM3
    go_wp2_with fail
    go_loopw [31] (fun i wr => ∃ k : Nat, k ≤ l.length ∧ i = .int .i64 k ∧ Below w.heap.size w wr ∧ RdF wr (.slice am M.length cm) M) (fun i _ => l.length - (intOf i).toNat)
    case atStart => exact ⟨0, by omega, rfl, HB4.out, RM4.out⟩
    case round =>
      obtain ⟨k, hk, rfl, hb, hr⟩ := hrel
      have HB := Kp.mk hb
      have HR := Kp.mk hr
      clear hb HB4 RM4 HP HP2 HF1
      by_cases hlt : k < l.length
      · have hlm : k < M.length := by rw [HML.out]; exact hlt
        have RL := HV.out.below HB.out
        obtain ⟨g1, o1, rfl, l1, d1⟩ := rdf_cells hr (by omega)
        obtain ⟨g2, o2, rfl, l2, d2⟩ := rdf_cells RL (by omega)
        obtain ⟨e1, e2⟩ := d1 k hlm
        obtain ⟨e3, e4⟩ := d2 k hlt
        rw [HAT.out k hlt hlm] at e1 e2
        obtain ⟨m1, m2⟩ := HSM.out l[k] (List.getElem_mem hlt)
        clear d1 d2 RL hr
        generalize l[k] = p at *
        obtain ⟨nm, x⟩ := p
        dsimp only at e1 e2 e3 e4 m1 m2
        have my := dfV_size now (nm, x) m2
        have HDD := Kp.mk (fun h => dfV_dated (now := now) (nm := nm) (x := x) h)
        have HLT := Kp.mk (fun h => dfV_later (now := now) later (nm := nm) (x := x) h)
        have q0 : (0 : Int) ≤ (k : Int) := by omega
        have q1 : (k : Int) < (l.length : Int) := by omega
        have q2 : (k : Int) < (M.length : Int) := by omega
        generalize hy : dfV now (nm, x) = y at *
        clear hy
        have HD0 := Kp.mk (show (DsC g1 (o1 + k * 2) g2 (o2 + k * 2) nm y x (.slice (some ⟨g1, o1, none⟩) M.length cm) M w) wr from ⟨e1, e2, e3, e4, HR.out, HB.out, l1, l2⟩)
        clear e1 e2 e3 e4
        by_cases hxy : y = x
        · subst hxy
          clear HDD HLT
          haveI hne : Nonempty (InS (DsC g1 (o1 + k * 2) g2 (o2 + k * 2) nm y y (.slice (some ⟨g1, o1, none⟩) M.length cm) M w)) := ⟨⟨_, HD0.out⟩⟩
          have HD := Kp.mk (HD0.out.below (gdrewN _ 1))
          have x1 := fun p : InS (DsC g1 (o1 + k * 2) g2 (o2 + k * 2) nm y y (.slice (some ⟨g1, o1, none⟩) M.length cm) M w) => p.ok.c1
          have x2 := fun p : InS (DsC g1 (o1 + k * 2) g2 (o2 + k * 2) nm y y (.slice (some ⟨g1, o1, none⟩) M.length cm) M w) => p.ok.c2
          have x3 := fun p : InS (DsC g1 (o1 + k * 2) g2 (o2 + k * 2) nm y y (.slice (some ⟨g1, o1, none⟩) M.length cm) M w) => p.ok.c3
          have x4 := fun p : InS (DsC g1 (o1 + k * 2) g2 (o2 + k * 2) nm y y (.slice (some ⟨g1, o1, none⟩) M.length cm) M w) => p.ok.c4
          go_upto_region 9 with fail
          refine region_in _ (by kernel_rfl) (by kernel_rfl) HD.out ?_
          repeat (go_big_quiet_step (fail))
          refine wpQuiet_nil ?_
          intro _ hw'
          obtain ⟨wq, rfl⟩ := hw'
          replace HD := Kp.mk (wq.ok.below (gdrewN _ 1))
          have HQ := Kp.mk wq.ok
          go_upto_region 11 with fail
          refine region_in _ (by kernel_rfl) (by kernel_rfl) HD.out ?_
          repeat (go_big_quiet_step (fail))
          refine wpQuiet_nil ?_
          intro _ hw'
          obtain ⟨wq, rfl⟩ := hw'
          replace HD := Kp.mk (wq.ok.below (gdrewN _ 1))
          have HQ := Kp.mk wq.ok
          go_wp2_with fail
          go_roundw
          case rel => exact ⟨k + 1, by omega, by go_num, HQ.out.bel, HQ.out.rm⟩
          case measure => simp [intOf]; omega
        · have t2 := ba_tlb hxy
          have t3 : ¬ (y.toList = x.toList) := fun e => hxy (ba_tl.1 e)
          have HE1 := Kp.mk (HDD.out hxy)
          have HE2 := Kp.mk (HLT.out hxy)
          clear HDD HLT
          have C1 := Kp.mk (fun w => dated_any nm w m1)
          rw [HE1.out] at C1
          have C2 := Kp.mk (fun w => HFX.out y w my)
          rw [HE2.out, ofL_me] at C2
          haveI hne : Nonempty (InS (DsC g1 (o1 + k * 2) g2 (o2 + k * 2) nm y x (.slice (some ⟨g1, o1, none⟩) M.length cm) M w)) := ⟨⟨_, HD0.out⟩⟩
          have HD := Kp.mk (HD0.out.below (gdrewN _ 1))
          have x1 := fun p : InS (DsC g1 (o1 + k * 2) g2 (o2 + k * 2) nm y x (.slice (some ⟨g1, o1, none⟩) M.length cm) M w) => p.ok.c1
          have x2 := fun p : InS (DsC g1 (o1 + k * 2) g2 (o2 + k * 2) nm y x (.slice (some ⟨g1, o1, none⟩) M.length cm) M w) => p.ok.c2
          have x3 := fun p : InS (DsC g1 (o1 + k * 2) g2 (o2 + k * 2) nm y x (.slice (some ⟨g1, o1, none⟩) M.length cm) M w) => p.ok.c3
          have x4 := fun p : InS (DsC g1 (o1 + k * 2) g2 (o2 + k * 2) nm y x (.slice (some ⟨g1, o1, none⟩) M.length cm) M w) => p.ok.c4
          go_upto_region 9 with fail
          refine region_in _ (by kernel_rfl) (by kernel_rfl) HD.out ?_
          repeat (go_big_quiet_step ((go_at_call 23; exact call_in fun w h => (C1.out w).mono fun _ _ h2 => ⟨h2.1, h.below h2.2⟩)))
          refine wpQuiet_nil ?_
          intro _ hw'
          obtain ⟨wq, rfl⟩ := hw'
          replace HD := Kp.mk (wq.ok.below (gdrewN _ 1))
          have HQ := Kp.mk wq.ok
          go_upto_region 11 with fail
          refine region_in _ (by kernel_rfl) (by kernel_rfl) HD.out ?_
          repeat (go_big_quiet_step ((go_at_call 15; exact call_in fun w h => (C2.out w).mono fun _ _ h2 => ⟨h2.1, h.below h2.2⟩)))
          refine wpQuiet_nil ?_
          intro _ hw'
          obtain ⟨wq, rfl⟩ := hw'
          replace HD := Kp.mk (wq.ok.below (gdrewN _ 1))
          have HQ := Kp.mk wq.ok
          go_wp2_with fail
          go_roundw
          case rel => exact ⟨k + 1, by omega, by go_num, HQ.out.bel, HQ.out.rm⟩
          case measure => simp [intOf]; omega
      · obtain rfl : k = l.length := by omega
        have q2 : ¬ ((l.length : Nat) : Int) < (M.length : Int) := by rw [HML.out]; omega
        go_wp2_with fail
        refine (lives30_any _).mono ?_
        rintro e w9 ⟨rfl, hb9⟩
        have HB9 := Kp.mk (HB.out.trans (hb9.mono HB.out.size))
        clear hb9
        go_wp2_with fail
        go_ret
        exact ⟨rfl, HB9.out⟩
theorem hlist_df (v : Value) (w : World) (h : Arg Try.prog w 28 v) : ∃ l, RdF w v l ∧ ∀ p ∈ l, FldOk p :=
  h.list (f := fldC) (Q := FldOk) Try.underlying28 Try.fcellsFld (by omega) fun E hE =>
    fld_of Try.underlying35 Try.underlying9 Try.fcellsFld Try.fcellsFs ⟨_, rfl, rfl, rfl⟩ ⟨_, rfl, rfl, rfl⟩ hE
set_option maxRecDepth 100000 in
theorem dstays_arg (v0 v1 v2 : Value) (w : World) (h0 : Arg Try.prog w 28 v0) (h1 : Arg Try.prog w 3 v1) (h2 : Arg Try.prog w 3 v2) :
    Calls Try.prog 5 #[v0, v1, v2] w fun e w' => e = .returned (.bool true) ∧ Below w.heap.size w w' := by
  obtain ⟨l, hv, hz⟩ := hlist_df v0 w h0
  obtain ⟨m, rfl, wm⟩ := h1.int Try.underlying3
  obtain ⟨r, rfl, wr⟩ := h2.int Try.underlying3
  obtain ⟨x0, x1⟩ := bounds_i64 wm
  obtain ⟨y0, y1⟩ := bounds_i64 wr
  exact dstays_walk v0 l m r w hv hz x0 x1 y0 y1
end Go.Proofs.Ytgamekfickheaaa
