/- Tally (layer 49): what TallyCounts asks of rows: its two closures, Rows over them. -/
import Derived.Test.YtocnecbhpofdgaaTlt
namespace Go.Proofs.Ytocnecbhpofdgaa
open Go.RowKit Go.Sort Go.Shelf
set_option linter.unusedVariables false
set_option linter.unusedSimpArgs false

/-- The boxes of the first closure, at H: the sum, the last key, how many, whether all is well. -/
structure CbI (H : Nat) (w0 : World) (m : Nat) (la su : Int) (w : World) : Prop where
  s : w.heap[H]? = some (.cells #[.int .i64 su] 3 (0, 0))
  l : w.heap[H + 1]? = some (.cells #[.int .i64 la] 3 (0, 0))
  m : w.heap[H + 2]? = some (.cells #[.int .i64 m] 3 (0, 0))
  o : w.heap[H + 3]? = some (.cells #[.bool true] 4 (0, 0))
  bl : Below H w0 w
theorem CbI.kpt {H : Nat} {w0 : World} {m : Nat} {la su : Int} {w w' : World} (h : CbI H w0 m la su w) (hb : Below w.heap.size w w') : CbI H w0 m la su w' :=
  ⟨(hb.block _ (blk_lt h.s)).trans h.s, (hb.block _ (blk_lt h.l)).trans h.l, (hb.block _ (blk_lt h.m)).trans h.m, (hb.block _ (blk_lt h.o)).trans h.o, h.bl.trans (hb.mono (by have := blk_lt h.s; omega))⟩
theorem CbI.next {H : Nat} {w0 : World} {m : Nat} {la su : Int} {w : World} (h : CbI H w0 m la su w) (k n : Int) (hm : n = su) (M : Int) (hM : M = ((m + 1 : Nat) : Int)) (su' : Int) :
    CbI H w0 (m + 1) k su' ((((w.setCell ⟨H + 3, 0, none⟩ (.bool true)).setCell ⟨H + 1, 0, none⟩ (.int .i64 k)).setCell ⟨H + 2, 0, none⟩ (.int .i64 M)).setCell ⟨H, 0, none⟩ (.int .i64 su')) := by
  subst hM
  refine ⟨blk_set (i := 0) (blk_set_other (blk_set_other (blk_set_other h.s (by omega) _) (by omega) _) (by omega) _) _, blk_set_other (blk_set_other (blk_set (i := 0) (blk_set_other h.l (by omega) _) _) (by omega) _) (by omega) _,
    blk_set_other (blk_set (i := 0) (blk_set_other (blk_set_other h.m (by omega) _) (by omega) _) _) (by omega) _, blk_set_other (blk_set_other (blk_set_other (blk_set (i := 0) h.o _) (by omega) _) (by omega) _) (by omega) _,
    (((h.bl.setCell (by simp) _).setCell (by simp) _).setCell (by simp) _).setCell (by simp) _⟩
set_option maxRecDepth 100000 in
set_option maxHeartbeats 2000000 in
theorem tc1_any (H B b N : Nat) (F : Int → Int) (w0 w : World) (m : Nat) (la su k n : Int) (hT : Tyi B b N F w0) (hH : w0.heap.size = H) (h : CbI H w0 m la su w) (hk : (Lit.int .i64 k).wf = true) (hF : F k = n) (hn : 0 < n) (hm : m = 0 ∨ la < k) (hml : m ≤ 1000) (hs0 : 0 ≤ su) (hs1 : su + n ≤ 9223372036854775807) :
    Calls Try.prog 20 #[.int .i64 k, .int .i64 n, .pointer (some ⟨H + 3, 0, none⟩), .pointer (some ⟨b, 0, none⟩), .pointer (some ⟨H + 2, 0, none⟩), .pointer (some ⟨H + 1, 0, none⟩), .pointer (some ⟨H, 0, none⟩)] w fun e w' =>
      e = .returned (.bool true) ∧ CbI H w0 (m + 1) k (su + n) w' ∧ Kpt (fun q => H + 4 ≤ q) w w' := by
  have HC := Kp.mk h
  have HTW := Kp.mk (hT.below (by rw [hH]; exact h.bl))
  have HOF := Kp.mk (tofi_any B b N F k w HTW.out hk)
  rw [hF] at HOF
  have c0 := blk_cell (i := 0) h.s rfl
  have c1 := blk_cell (i := 0) h.l rfl
  have c2 := blk_cell (i := 0) h.m rfl
  have c3 := blk_cell (i := 0) h.o rfl
  have f0 := blk_free (i := 0) h.s
  have f1 := blk_free (i := 0) h.l
  have f2 := blk_free (i := 0) h.m
  have f3 := blk_free (i := 0) h.o
  have HN := Kp.mk (h.next k su rfl ((m : Int) + 1) (by omega) (su + n))
  have HK := Kp.mk (show Kpt (fun q => H + 4 ≤ q) w ((((w.setCell ⟨H + 3, 0, none⟩ (.bool true)).setCell ⟨H + 1, 0, none⟩ (.int .i64 k)).setCell ⟨H + 2, 0, none⟩ (.int .i64 ((m : Int) + 1))).setCell ⟨H, 0, none⟩ (.int .i64 (su + n))) from
    ((((Kpt.refl _ w).setCell _ _ (by omega)).setCell _ _ (by omega)).setCell _ _ (by omega)).setCell _ _ (by omega))
  clear hT h hF hk hH
  rcases (show m = 0 ∨ (0 < m ∧ la < k) by omega) with h0 | ⟨h0, hlk⟩
  · subst h0
    clear hm
    go_enter Try.func20, Try.ntmps20
    go_wp2_with fail
    refine HOF.out.mono ?_
    rintro e w2 ⟨rfl, rfl⟩
    go_wp2_with fail
    go_ret
    exact ⟨rfl, HN.out, HK.out⟩
  · have q0 : ((m : Int) == 0) = false := by rw [beq_eq_false_iff_ne]; omega
    clear hm
    go_enter Try.func20, Try.ntmps20
    go_wp2_with fail
    refine HOF.out.mono ?_
    rintro e w2 ⟨rfl, rfl⟩
    go_wp2_with fail
    go_ret
    exact ⟨rfl, HN.out, HK.out⟩
set_option maxRecDepth 100000 in
set_option maxHeartbeats 2000000 in
theorem trc1_any (H B b N bs : Nat) (F : Int → Int) (w0 w : World) (hT : Tyi B b N F w0) (hN : N ≤ 1000) (hH : w0.heap.size = H) (h : CbI H w0 0 0 0 w) (hbs : H + 4 ≤ bs) (hc : w.heap[bs]? = some (.cells #[.pointer (some ⟨b, 0, none⟩)] 42 (0, 0))) :
    Calls Try.prog 40 #[.func (.func 20) #[] #[.pointer (some ⟨H + 3, 0, none⟩), .pointer (some ⟨b, 0, none⟩), .pointer (some ⟨H + 2, 0, none⟩), .pointer (some ⟨H + 1, 0, none⟩), .pointer (some ⟨H, 0, none⟩)], .pointer (some ⟨bs, 0, none⟩)] w fun e w' =>
      e = .returned (.tuple #[]) ∧ ∃ L la, SoLi F N L ∧ CbI H w0 L.length la (sumI L) w' ∧ w'.heap[bs]? = some (.cells #[.pointer (some ⟨b, 0, none⟩)] 42 (0, 0)) := by
  have HT := Kp.mk hT
  have HH := Kp.mk hH
  have HC := Kp.mk h
  have HBS := Kp.mk hc
  have HSO := Kp.mk (tsorti_any B b N F w (hT.below (by rw [hH]; exact h.bl)) hN)
  have c0 := blk_cell (i := 0) hc rfl
  have hsz : H + 3 < w.heap.size := blk_lt h.o
  clear hT hH h hc
  go_enter Try.func40, Try.ntmps40
  go_wp2_with fail
  refine HSO.out.mono ?_
  rintro e w1 ⟨v, L, rfl, ho, hb, s1, s2, s3, s4, s5⟩
  have HL := Kp.mk (show SoLi F N L from ⟨s1, s2, s3, s4, s5⟩)
  have HLN := Kp.mk s1
  have HRI := Kp.mk HL.out.rise
  have HO := Kp.mk ho
  have HCB := Kp.mk (HC.out.kpt hb)
  have HB1 := Kp.mk ((hb.block _ (blk_lt HBS.out)).trans HBS.out)
  obtain ⟨av, cv, rfl⟩ := own_lenT ho
  have hs1 := hb.size
  clear ho hb s1 s2 s3 s4 s5 c0 HSO
  have hll : L.length ≤ 1000 := by have := HLN.out; omega
  go_wp2_with fail
  go_loopw [8] (fun i wr => ∃ (k : Nat) (la : Int), k ≤ L.length ∧ i = .int .i64 k ∧ (k = 0 ∨ ∀ q ∈ L.drop k, la < q.1) ∧ CbI H w0 k la (sumI (L.take k)) wr ∧ wr.ownsRow w.heap.size 81 2 (.slice av L.length cv) L.length (L.flatMap RiE) ∧ wr.heap[bs]? = some (.cells #[.pointer (some ⟨b, 0, none⟩)] 42 (0, 0))) (fun i _ => L.length - (intOf i).toNat)
  case atStart => exact ⟨0, 0, by omega, rfl, .inl rfl, HCB.out, HO.out, HB1.out⟩
  case round =>
    obtain ⟨k, la, hk, rfl, hla, hcb, hr, hbs2⟩ := hrel
    have HLA := Kp.mk hla
    have HC2 := Kp.mk hcb
    have HR := Kp.mk hr
    have HB2 := Kp.mk hbs2
    clear hla hcb hr hbs2
    by_cases hlt : k < L.length
    · obtain ⟨g, rfl⟩ := own_formT HR.out (by omega)
      have c1 : wr.cell? ⟨g, k * 2, none⟩ = some (.int .i64 L[k].1) := own_cellT HR.out (flat_at (f := RiE) (sz := 2) RiE_len L k hlt 0 (by omega))
      have c2 : wr.cell? ⟨g, k * 2 + 1, none⟩ = some (.int .i64 L[k].2) := own_cellT HR.out (flat_at (f := RiE) (sz := 2) RiE_len L k hlt 1 (by omega))
      have q0 : (0 : Int) ≤ (k : Int) := by omega
      have q1 : (k : Int) < (L.length : Int) := by omega
      have HST := Kp.mk (show L.take (k + 1) = L.take k ++ [L[k]] from List.take_succ_eq_append_getElem hlt)
      have HDR := Kp.mk (show L.drop k = L[k] :: L.drop (k + 1) from List.drop_eq_getElem_cons hlt)
      have HEL := Kp.mk (HL.out.mem L[k] |>.1 (List.getElem_mem hlt))
      have HSI := Kp.mk (sumI_in (L := L.take k) fun q hq => by
        obtain ⟨g1, g2, g3⟩ := (HL.out.mem q).1 (List.mem_of_mem_take hq)
        have := HT.out.le q.1
        omega)
      have HPW := Kp.mk (show ∀ q ∈ L.drop (k + 1), L[k].1 < q.1 by
        have h := HRI.out
        rw [← List.take_append_drop k L, List.pairwise_append] at h
        have h2 := h.2.1
        rw [HDR.out, List.pairwise_cons] at h2
        exact h2.1)
      generalize L[k] = f at *
      obtain ⟨x, n⟩ := f
      dsimp only at c1 c2 HEL HPW
      have hbn := (Below.refl wr.heap.size wr).alloc (Nat.le_refl _) (.cells #[.int .i64 x, .int .i64 n] 81)
      have HC3 := Kp.mk (HC2.out.kpt hbn)
      have HR3 := Kp.mk (HR.out.alloc (.cells #[.int .i64 x, .int .i64 n] 81))
      have HB3 := Kp.mk (blk_alloc (o2 := .cells #[.int .i64 x, .int .i64 n] 81) HB2.out)
      have HFN := Kp.mk (HT.out.le x)
      have HC4 := Kp.mk (tc1_any H B b N F w0 _ k la (sumI (L.take k)) x n HT.out HH.out HC3.out HEL.out.1 HEL.out.2.1 HEL.out.2.2
        (by rcases HLA.out with h | h
            · exact .inl h
            · exact .inr (h (x, n) (by rw [HDR.out]; simp))) (by omega) HSI.out.1 (by
              have h1 := HSI.out.2
              have h2 := HFN.out
              have h3 := HEL.out.2.1
              rw [List.length_take] at h1
              have h4 : ((min k L.length : Nat) : Int) ≤ 1000 := by omega
              omega))
      have HSS := Kp.mk (show sumI (L.take (k + 1)) = sumI (L.take k) + n by rw [HST.out, sumI_snoc])
      clear hbn
      generalize sumI (L.take k) = S at *
      go_wp2_with fail
      refine HC4.out.mono ?_
      rintro e w4 ⟨rfl, hcb4, hk4⟩
      have HCB4 := Kp.mk hcb4
      have HR4 := Kp.mk (own_kT HR3.out fun q hq hv => hk4.block q hq (by have := (HR3.out.lt q hv).1; omega))
      have HB4 := Kp.mk ((hk4.block _ (blk_lt HB3.out) hbs).trans HB3.out)
      clear hcb4 hk4 c1 c2 HC4
      go_wp2_with fail
      go_roundw
      case rel => exact ⟨k + 1, x, by omega, by go_num, .inr HPW.out, by rw [HSS.out]; exact HCB4.out, HR4.out, HB4.out⟩
      case measure => simp [intOf]; omega
    · have hkn : k = L.length := by omega
      subst hkn
      have HC9 := Kp.mk (show CbI H w0 L.length la (sumI L) wr by have := HC2.out; rwa [List.take_length] at this)
      go_wp2_with fail
      first | go_end0 | go_ret
      exact ⟨rfl, L, la, HL.out, HC9.out, HB2.out⟩
set_option maxRecDepth 100000 in
set_option maxHeartbeats 2000000 in
theorem tc2_any (g gm : Nat) (f : Nat) (most k n : Int) (w : World) (hf : f ≤ 1000) (hne : g ≠ gm) (h1 : w.heap[g]? = some (.cells #[.int .i64 f] 3 (0, 0))) (h2 : w.heap[gm]? = some (.cells #[.int .i64 most] 3 (0, 0))) :
    Calls Try.prog 21 #[.int .i64 k, .int .i64 n, .pointer (some ⟨g, 0, none⟩), .pointer (some ⟨gm, 0, none⟩)] w fun e w' =>
      e = .returned (.bool (decide (((f + 1 : Nat) : Int) < most))) ∧ w'.heap[g]? = some (.cells #[.int .i64 ((f : Int) + 1)] 3 (0, 0)) ∧ Kpt (fun q => q ≠ g) w w' := by
  have c0 := blk_cell (i := 0) h1 rfl
  have c1 := blk_cell (i := 0) h2 rfl
  have f0 := blk_free (i := 0) h1
  have hn : ¬ g = gm := hne
  have HG := Kp.mk (blk_set (i := 0) h1 (.int .i64 ((f : Int) + 1)))
  have HK := Kp.mk (show Kpt (fun q => q ≠ g) w (w.setCell ⟨g, 0, none⟩ (.int .i64 ((f : Int) + 1))) from (Kpt.refl _ w).setCell _ _ (by simp))
  have hn2 : ¬ gm = g := fun e => hne e.symm
  clear h1 h2 hne
  go_enter Try.func21, Try.ntmps21
  go_wp2_with fail
  go_ret
  exact ⟨by simp, HG.out, HK.out⟩
set_option maxRecDepth 100000 in
set_option maxHeartbeats 2000000 in
theorem trc2_any (H g gm B b N bs : Nat) (most : Int) (F : Int → Int) (w : World) (hT : Tyi B b N F w) (hN : N ≤ 1000) (hg : H ≤ g) (hgm : gm < H) (hbs : bs < g) (h1 : w.heap[g]? = some (.cells #[.int .i64 (0 : Nat)] 3 (0, 0))) (h2 : w.heap[gm]? = some (.cells #[.int .i64 most] 3 (0, 0))) (hc : w.heap[bs]? = some (.cells #[.pointer (some ⟨b, 0, none⟩)] 42 (0, 0))) :
    Calls Try.prog 40 #[.func (.func 21) #[] #[.pointer (some ⟨g, 0, none⟩), .pointer (some ⟨gm, 0, none⟩)], .pointer (some ⟨bs, 0, none⟩)] w fun e w' =>
      e = .returned (.tuple #[]) ∧ ∃ L, SoLi F N L ∧ w'.heap[g]? = some (.cells #[.int .i64 (min (L.length : Int) (max most 1))] 3 (0, 0)) ∧ Below g w w' := by
  have H1 := Kp.mk h1
  have H2 := Kp.mk h2
  have HBS := Kp.mk hc
  have HSO := Kp.mk (tsorti_any B b N F w hT hN)
  have c0 := blk_cell (i := 0) hc rfl
  have hsz : g < w.heap.size := blk_lt h1
  clear hT h1 h2 hc
  go_enter Try.func40, Try.ntmps40
  go_wp2_with fail
  refine HSO.out.mono ?_
  rintro e w1 ⟨v, L, rfl, ho, hb, s1, s2, s3, s4, s5⟩
  have HL := Kp.mk (show SoLi F N L from ⟨s1, s2, s3, s4, s5⟩)
  have HO := Kp.mk ho
  have G1 := Kp.mk ((hb.block _ (blk_lt H1.out)).trans H1.out)
  have G2 := Kp.mk ((hb.block _ (blk_lt H2.out)).trans H2.out)
  have GB := Kp.mk (hb.mono (by omega : g ≤ w.heap.size))
  obtain ⟨av, cv, rfl⟩ := own_lenT ho
  have hs1 := hb.size
  have hll : L.length ≤ 1000 := by omega
  clear ho hb s1 s2 s3 s4 s5 c0 HSO
  go_wp2_with fail
  go_loopw [8] (fun i wr => ∃ k : Nat, k ≤ L.length ∧ i = .int .i64 k ∧ (k = 0 ∨ (k : Int) < most) ∧ wr.heap[g]? = some (.cells #[.int .i64 k] 3 (0, 0)) ∧ wr.heap[gm]? = some (.cells #[.int .i64 most] 3 (0, 0)) ∧ Below g w wr ∧ wr.ownsRow w.heap.size 81 2 (.slice av L.length cv) L.length (L.flatMap RiE)) (fun i _ => L.length - (intOf i).toNat)
  case atStart => exact ⟨0, by omega, rfl, .inl rfl, G1.out, G2.out, GB.out, HO.out⟩
  case round =>
    obtain ⟨k, hk, rfl, hkm, h1, h2, hbl, hr⟩ := hrel
    have K1 := Kp.mk h1
    have K2 := Kp.mk h2
    have KB := Kp.mk hbl
    have HR := Kp.mk hr
    have HKM := Kp.mk hkm
    clear h1 h2 hbl hr hkm
    by_cases hlt : k < L.length
    · obtain ⟨gr, rfl⟩ := own_formT HR.out (by omega)
      have c1 : wr.cell? ⟨gr, k * 2, none⟩ = some (.int .i64 L[k].1) := own_cellT HR.out (flat_at (f := RiE) (sz := 2) RiE_len L k hlt 0 (by omega))
      have c2 : wr.cell? ⟨gr, k * 2 + 1, none⟩ = some (.int .i64 L[k].2) := own_cellT HR.out (flat_at (f := RiE) (sz := 2) RiE_len L k hlt 1 (by omega))
      have q0 : (0 : Int) ≤ (k : Int) := by omega
      have q1 : (k : Int) < (L.length : Int) := by omega
      generalize L[k] = f at *
      obtain ⟨x, n⟩ := f
      dsimp only at c1 c2
      have hgw : g < wr.heap.size := blk_lt K1.out
      have J1 := Kp.mk (blk_alloc (o2 := .cells #[.int .i64 x, .int .i64 n] 81) K1.out)
      have J2 := Kp.mk (blk_alloc (o2 := .cells #[.int .i64 x, .int .i64 n] 81) K2.out)
      have JB := Kp.mk (KB.out.alloc (by omega) (.cells #[.int .i64 x, .int .i64 n] 81))
      have JR := Kp.mk (HR.out.alloc (.cells #[.int .i64 x, .int .i64 n] 81))
      have HC4 := Kp.mk (tc2_any g gm k most x n _ (by omega) (by omega) J1.out J2.out)
      have hgr := (HR.out.lt gr rfl).1
      by_cases hst : ((k + 1 : Nat) : Int) < most
      · rw [decide_eq_true hst] at HC4
        go_wp2_with fail
        refine HC4.out.mono ?_
        rintro e w4 ⟨rfl, hg4, hk4⟩
        have L1 := Kp.mk hg4
        have L2 := Kp.mk ((hk4.block _ (blk_lt J2.out) (by omega)).trans J2.out)
        have LB := Kp.mk (JB.out.trans (hk4.below (by have := JB.out.size; have := blk_lt J1.out; omega) (fun q hq => by omega)))
        have LR := Kp.mk (own_kT JR.out fun q hq hv => hk4.block q hq (by have := (JR.out.lt q hv).1; omega))
        clear HC4 hg4 hk4
        go_wp2_with fail
        go_roundw
        case rel => exact ⟨k + 1, by omega, by go_num, .inr hst, L1.out, L2.out, LB.out, LR.out⟩
        case measure => simp [intOf]; omega
      · rw [decide_eq_false hst] at HC4
        have HV := Kp.mk (show min (L.length : Int) (max most 1) = ((k : Int) + 1) by have := HKM.out; omega)
        go_wp2_with fail
        refine HC4.out.mono ?_
        rintro e w4 ⟨rfl, hg4, hk4⟩
        have L1 := Kp.mk hg4
        have L2 := Kp.mk ((hk4.block _ (blk_lt J2.out) (by omega)).trans J2.out)
        have LB := Kp.mk (JB.out.trans (hk4.below (by have := JB.out.size; have := blk_lt J1.out; omega) (fun q hq => by omega)))
        have LR := Kp.mk (own_kT JR.out fun q hq hv => hk4.block q hq (by have := (JR.out.lt q hv).1; omega))
        clear HC4 hg4 hk4
        go_wp2_with fail
        refine bodyPost_ret (results_none rfl _ _ _) rfl ?_
        exact ⟨rfl, L, HL.out, by rw [HV.out]; exact L1.out, LB.out⟩
    · have hkn : k = L.length := by omega
      subst hkn
      have HV := Kp.mk (show min (L.length : Int) (max most 1) = (L.length : Int) by have := HKM.out; omega)
      go_wp2_with fail
      first | go_end0 | go_ret
      exact ⟨rfl, L, HL.out, by rw [HV.out]; exact K1.out, KB.out⟩
end Go.Proofs.Ytocnecbhpofdgaa
