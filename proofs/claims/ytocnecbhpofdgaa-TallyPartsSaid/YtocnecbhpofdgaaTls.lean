/- Tally (layer 49): TallyParts. -/
import Derived.Test.YtocnecbhpofdgaaTlr
namespace Go.Proofs.Ytocnecbhpofdgaa
open Go.RowKit Go.Sort Go.Shelf
set_option linter.unusedVariables false
set_option linter.unusedSimpArgs false

/-- What rows come to, and what those of a name come to. -/
def sumN (L : List Srw) : Int := (L.map (·.2)).sum
def selN (L : List Srw) (x : ByteArray) : Int := sumN (L.filter fun p => decide (p.1 = x))
theorem sumN_cons (p : Srw) (L : List Srw) : sumN (p :: L) = p.2 + sumN L := by simp [sumN]
theorem sumN_app (L M : List Srw) : sumN (L ++ M) = sumN L + sumN M := by simp [sumN]
theorem sumN_take {L : List Srw} {k : Nat} (h : k < L.length) : sumN (L.take (k + 1)) = sumN (L.take k) + L[k].2 := by
  rw [List.take_succ_eq_append_getElem h, sumN_app, sumN_cons]
  simp [sumN]
theorem selN_take {L : List Srw} {x : ByteArray} {k : Nat} (h : k < L.length) : selN (L.take (k + 1)) x = selN (L.take k) x + if L[k].1 = x then L[k].2 else 0 := by
  unfold selN
  rw [List.take_succ_eq_append_getElem h, List.filter_append, sumN_app]
  by_cases e : L[k].1 = x <;> simp [e, sumN]
theorem selN_app (L M : List Srw) (x : ByteArray) : selN (L ++ M) x = selN L x + selN M x := by unfold selN; rw [List.filter_append, sumN_app]
theorem sumN_in : ∀ {L : List Srw}, (∀ p ∈ L, 0 ≤ p.2 ∧ p.2 ≤ 80) → 0 ≤ sumN L ∧ sumN L ≤ 80 * (L.length : Int)
  | [], _ => by simp [sumN]
  | p :: L, h => by
    have h1 := sumN_in (L := L) fun q hq => h q (List.mem_cons_of_mem _ hq)
    have h2 := h p (by simp)
    rw [sumN_cons]
    simp only [List.length_cons]
    omega
theorem selN_in {L : List Srw} {x : ByteArray} (h : ∀ p ∈ L, 0 ≤ p.2 ∧ p.2 ≤ 80) : 0 ≤ selN L x ∧ selN L x ≤ 80 * (L.length : Int) := by
  have h1 := sumN_in (L := L.filter fun p => decide (p.1 = x)) fun q hq => h q (List.mem_filter.1 hq).1
  have h2 := List.length_filter_le (fun p : Srw => decide (p.1 = x)) L
  unfold selN
  omega
theorem lefD_nat (b : ByteArray) : ∀ l : List ByteArray, (l.filter fun y => decide (y = b)).length + (l.filter fun x => decide (x ≠ b)).length = l.length
  | [] => rfl
  | x :: l => by
    have ih := lefD_nat b l
    rw [List.filter_cons, List.filter_cons]
    by_cases e : x = b
    · rw [if_pos (decide_eq_true e), if_neg (by simp [e])]
      simp only [List.length_cons]
      omega
    · rw [if_neg (by simp [e]), if_pos (decide_eq_true e)]
      simp only [List.length_cons]
      omega
theorem lefD_cnt (l : List ByteArray) (b : ByteArray) : ctB l b + ((lefD l b).length : Nat) = (l.length : Nat) := by
  unfold ctB lefD
  have := lefD_nat b l
  omega
theorem cntD_sum : ∀ (n : Nat) (l : List ByteArray), l.length ≤ n → sumN (cntD n l) = (l.length : Nat)
  | 0, l, h => by
    have e : l = [] := List.length_eq_zero_iff.1 (by omega)
    subst e
    simp [cntD, sumN]
  | n + 1, l, h => by
    rw [cntD]
    split
    · rename_i h0
      rw [h0]; simp [sumN]
    · rename_i h0
      rcases bstD_ok l l.length (Nat.le_refl _) with ⟨h9, _⟩ | ⟨h1, h2, h3⟩
      · exact absurd h9 h0
      · have h4 := lefD_len h1
        have h5 := lefD_cnt l (bstD l l.length).1
        rw [sumN_cons, cntD_sum n _ (by omega), h2]
        exact h5
theorem cntD_sel (x : ByteArray) : ∀ (n : Nat) (l : List ByteArray), l.length ≤ n → selN (cntD n l) x = ctB l x
  | 0, l, h => by
    have e : l = [] := List.length_eq_zero_iff.1 (by omega)
    subst e
    simp [cntD, selN, sumN, ctB]
  | n + 1, l, h => by
    rw [cntD]
    split
    · rename_i h0
      have e : l = [] := List.length_eq_zero_iff.1 h0
      subst e
      simp [selN, sumN, ctB]
    · rename_i h0
      rcases bstD_ok l l.length (Nat.le_refl _) with ⟨h9, _⟩ | ⟨h1, h2, h3⟩
      · exact absurd h9 h0
      · have h4 := lefD_len h1
        have ih := cntD_sel x n (lefD l (bstD l l.length).1) (by omega)
        generalize bstD l l.length = b at *
        have e0 : selN (b :: cntD n (lefD l b.1)) x = (if b.1 = x then b.2 else 0) + selN (cntD n (lefD l b.1)) x := by
          unfold selN
          by_cases e : b.1 = x <;> simp [List.filter_cons, e, sumN]
        rw [e0, ih]
        by_cases e : b.1 = x
        · rw [if_pos e, h2, e]
          have : ctB (lefD l x) x = 0 := by
            have h7 := ctB_in (lefD l x) x
            have h8 : ¬ 0 < ctB (lefD l x) x := fun h8 => by
              have := ctB_pos.1 h8
              rw [lefD_mem] at this
              exact this.2 rfl
            omega
          rw [this]; omega
        · rw [if_neg e, lefD_ct _ _ _ (fun e2 => e e2.symm)]; omega
theorem cntF_sum (l : List ByteArray) : sumN (cntF l) = (l.length : Nat) := cntD_sum _ l (Nat.le_refl _)
theorem cntF_sel (l : List ByteArray) (x : ByteArray) : selN (cntF l) x = ctB l x := cntD_sel x _ l (Nat.le_refl _)
theorem cntF_mem (l : List ByteArray) (p : Srw) : p ∈ cntF l ↔ p.1 ∈ l ∧ p.2 = ctB l p.1 := (cntD_ok l.length l (Nat.le_refl _)).2 p
theorem ctB_app (K M : List ByteArray) (x : ByteArray) : ctB (K ++ M) x = ctB K x + ctB M x := by
  unfold ctB
  rw [List.filter_append, List.length_append]
  omega
theorem keysT_app (a b : List Fld) : keysT (a ++ b) = keysT a ++ keysT b := by unfold keysT; rw [List.map_append]
theorem fldC_one (x : Fld) (u : Value) (h : u ∈ fldC x) : u.oneCell' = true := by
  simp [fldC] at h
  rcases h with rfl | rfl <;> rfl
theorem encSrw_one (x : Srw) (u : Value) (h : u ∈ encSrw x) : u.oneCell' = true := by
  simp [encSrw] at h
  rcases h with rfl | rfl <;> rfl
/-- What is asked of each row, as numbers. -/
theorem parts_row {KA KB : List ByteArray} {p : Srw} (hp : p ∈ cntF (KA ++ KB)) : selN (cntF KA ++ cntF KB) p.1 = p.2 ∧ 1 ≤ p.2 := by
  obtain ⟨h1, h2⟩ := (cntF_mem _ p).1 hp
  rw [selN_app, cntF_sel, cntF_sel, h2, ctB_app]
  have := ctB_pos.2 h1
  rw [ctB_app] at this
  omega
set_option maxRecDepth 100000 in
set_option maxHeartbeats 4000000 in
theorem tparts_walk (v1 v2 : Value) (a b : List Fld) (w : World) (h1 : RdF w v1 a) (h2 : RdF w v2 b) (hz1 : ∀ p ∈ a, FldOk p) (hz2 : ∀ p ∈ b, FldOk p) :
    Calls Try.prog 5 #[v1, v2] w fun e w' => e = .returned (.bool true) ∧ Below w.heap.size w w' := by
  have H1 := Kp.mk h1
  have H2 := Kp.mk h2
  have HFA := Kp.mk (few10_any v1 a w h1 hz1)
  have HFB := Kp.mk (fun W (hW : Below w.heap.size w W) => few10_any v2 b W (h2.below hW) hz2)
  obtain ⟨a1, c1, rfl, -, -, -⟩ := h1
  obtain ⟨a2, c2, rfl, -, -, -⟩ := h2
  have HLV := Kp.mk (fun W => lives49_any W)
  clear hz1 hz2
  go_enter Try.func5, Try.ntmps5
  cases hf : hFew a
  · rw [hf] at HFA
    clear hf
    go_wp2_with fail
    refine HFA.out.mono ?_
    rintro e w2 ⟨rfl, hb2⟩
    have HB2 := Kp.mk hb2
    clear hb2 HFA
    go_wp2_with fail
    refine (HLV.out _).mono ?_
    rintro e w3 ⟨rfl, hb3⟩
    have HB3 := Kp.mk (HB2.out.trans (hb3.mono HB2.out.size))
    clear hb3
    go_wp2_with fail
    go_ret
    exact ⟨rfl, HB3.out⟩
  · have HFO := Kp.mk (hFew_out hf)
    rw [hf] at HFA
    clear hf
    go_wp2_with fail
    refine HFA.out.mono ?_
    rintro e w2 ⟨rfl, hb2⟩
    have HB2 := Kp.mk hb2
    clear hb2 HFA
    cases hg : hFew b
    · rw [hg] at HFB
      clear hg
      go_wp2_with fail
      refine (HFB.out _ HB2.out).mono ?_
      rintro e w3 ⟨rfl, hb3⟩
      have HB3 := Kp.mk (HB2.out.trans (hb3.mono HB2.out.size))
      clear hb3
      go_wp2_with fail
      refine (HLV.out _).mono ?_
      rintro e w4 ⟨rfl, hb4⟩
      have HB4 := Kp.mk (HB3.out.trans (hb4.mono HB3.out.size))
      clear hb4
      go_wp2_with fail
      go_ret
      exact ⟨rfl, HB4.out⟩
    · have HFP := Kp.mk (hFew_out hg)
      rw [hg] at HFB
      clear hg
      go_wp2_with fail
      refine (HFB.out _ HB2.out).mono ?_
      rintro e w3 ⟨rfl, hb3⟩
      have HB3 := Kp.mk (HB2.out.trans (hb3.mono HB2.out.size))
      clear hb3
      have hla := HFO.out.1
      have hlb := HFP.out.1
      have HE := Kp.mk (show (w3.alloc (.cells #[] 64)).ownsRow w3.heap.size 64 2 (.slice (some ⟨w3.heap.size, 0, none⟩) 0 0) 0 [] from own_empty _ _ rfl)
      have HA3 := Kp.mk (HB3.out.alloc HB3.out.size (.cells #[] 64))
      have HS3 := Kp.mk HB3.out.size
      have hs3 : w3.heap.size ≤ (w3.alloc (.cells #[] 64)).heap.size := by simp
      have n1 : (0 + a.length) * 32 ≤ 140737488355328 := by omega
      have n2 : 0 + a.length ≤ maxLen := by unfold maxLen; omega
      have n3 : (a.length + b.length) * 32 ≤ 140737488355328 := by omega
      have n4 : a.length + b.length ≤ maxLen := by unfold maxLen; omega
      have HN := Kp.mk (And.intro n1 (And.intro n2 (And.intro n3 n4)))
      clear n1 n2 n3 n4
      go_wp2_with (first
        | (at_builtin; refine app_rdl (f := fldC) (fun _ => rfl) fldC_one rfl _ _ _ _ rfl Try.underlying22 _ Try.infoFH rfl (by omega) w3.heap.size (.slice (some ⟨w3.heap.size, 0, none⟩) 0 0) 0 _ rfl HE.out (.slice a1 a.length c1) rfl a (H1.out.below HA3.out) HN.out.1 HN.out.2.1 hs3 ?_; intro v4 w4 k1 k2; rw [Nat.zero_add, List.nil_append] at k1; have G4 := Kp.mk k1; have K4 := Kp.mk k2; have HB4 := Kp.mk (HA3.out.grown k2 HA3.out.size (fun k hk => by have := HS3.out; simp [Value.ownBlock] at hk; omega)); have hs4 : w3.heap.size ≤ w4.heap.size := Nat.le_trans hs3 k2.size; clear k1 k2)
        | (at_builtin; refine app_rdl (f := fldC) (fun _ => rfl) fldC_one rfl _ _ _ _ rfl Try.underlying22 _ Try.infoFH rfl (by omega) w3.heap.size v4 a.length _ rfl G4.out (.slice a2 b.length c2) rfl b (H2.out.below HB4.out) HN.out.2.2.1 HN.out.2.2.2 hs4 ?_; intro v5 w5 k1 k2; rw [← List.length_append, ← List.flatMap_append] at k1; have G5 := Kp.mk k1; have HB5 := Kp.mk (HB4.out.grown k2 HB4.out.size (fun k hk => Nat.le_trans HS3.out (G4.out.lt k hk).1)); clear k1 k2)
        | fail)
      have HSM := Kp.mk (show ∀ p ∈ a ++ b, FldSm p from fun p hp => by
        rcases List.mem_append.1 hp with hp | hp
        · exact HFO.out.2 p hp
        · exact HFP.out.2 p hp)
      have HKY := Kp.mk (keysT_app a b)
      have HLA := Kp.mk (show (a ++ b).length = a.length + b.length from List.length_append)
      have hAB : (a ++ b).length ≤ 80 := by rw [List.length_append]; omega
      have hka := keysT_len a
      have hkb := keysT_len b
      have hKA : (keysT a).length ≤ 40 := by omega
      have hKB : (keysT b).length ≤ 40 := by omega
      have HAB := Kp.mk hAB
      have HKL := Kp.mk (keysT_len (a ++ b))
      have R5 := Kp.mk (show RdF w5 v5 (a ++ b) from RdL.of_own (f := fldC) (sz := 2) (fun _ => rfl) G5.out)
      obtain ⟨a5, c5, rfl⟩ := own_lenT G5.out
      have HTA := Kp.mk (fun W (hW : Below w.heap.size w W) => tfields_any _ a W (H1.out.below hW) HFO.out.2 (by omega))
      have HTB := Kp.mk (fun W (hW : Below w.heap.size w W) => tfields_any _ b W (H2.out.below hW) HFP.out.2 (by omega))
      clear HE HA3 hs3 hs4 G4 K4 hka hkb hAB HN
      generalize a ++ b = AB at *
      refine (tfields_any _ AB w5 R5.out HSM.out (by have := HAB.out; omega)).mono ?_
      rintro e w6 ⟨u6, rfl, ho6, hb6⟩
      rw [HKY.out] at ho6 HKL
      have HRA := Kp.mk (fun p hp => parts_row (KA := keysT a) (KB := keysT b) (p := p) hp)
      have HRS := Kp.mk (cntF_sum (keysT a ++ keysT b))
      have HRL := Kp.mk (cntF_le (keysT a ++ keysT b))
      have HRI := Kp.mk (fun (p : Srw) (hp : p ∈ cntF (keysT a ++ keysT b)) => show 0 ≤ p.2 ∧ p.2 ≤ 80 from by
        obtain ⟨h1, h2⟩ := (cntF_mem _ p).1 hp
        have := ctB_in (keysT a ++ keysT b) p.1
        rw [List.length_append] at this
        omega)
      have HIA := Kp.mk (fun (p : Srw) (hp : p ∈ cntF (keysT a) ++ cntF (keysT b)) => show 0 ≤ p.2 ∧ p.2 ≤ 80 from by
        rcases List.mem_append.1 hp with hp | hp
        · obtain ⟨h1, h2⟩ := (cntF_mem _ p).1 hp
          have := ctB_in (keysT a) p.1
          omega
        · obtain ⟨h1, h2⟩ := (cntF_mem _ p).1 hp
          have := ctB_in (keysT b) p.1
          omega)
      have HLC := Kp.mk (show (cntF (keysT a)).length ≤ 40 ∧ (cntF (keysT b)).length ≤ 40 by have := cntF_le (keysT a); have := cntF_le (keysT b); omega)
      rw [HKL.out] at HRS HRL
      unfold RetRk at HTA HTB
      clear HKL HKY
      generalize cntF (keysT a ++ keysT b) = R at *
      generalize cntF (keysT a) = CA at *
      generalize cntF (keysT b) = CB at *
      have R6 := Kp.mk (rk_rdl ho6)
      have HB6 := Kp.mk (HB5.out.trans (hb6.mono HB5.out.size))
      obtain ⟨a6, c6, rfl⟩ := own_lenT ho6
      clear ho6 hb6 hKA hKB
      have hrl : R.length ≤ 80 := by have := HRL.out; have := HAB.out; omega
      go_wp2_with fail
      go_loopw [6, 29] (fun vs vi wr => ∃ k : Nat, k ≤ R.length ∧ vi = .int .i64 k ∧ vs = .int .i64 (sumN (R.take k)) ∧ Below w6.heap.size w6 wr) (fun _ vi _ => R.length - (intOf vi).toNat)
      case atStart => exact ⟨0, Nat.zero_le _, rfl, rfl, Below.refl _ _⟩
      case round =>
        obtain ⟨k, hk, rfl, rfl, hb⟩ := hrel
        have HBK := Kp.mk hb
        have HBW := Kp.mk (HB6.out.trans (hb.mono HB6.out.size))
        have hwz := HBW.out.size
        clear hb
        have hsu := sumN_in (L := R.take k) fun p hp => HRI.out p (List.mem_of_mem_take hp)
        rw [List.length_take] at hsu
        have hsu2 : sumN (R.take k) ≤ 6400 := by omega
        have hsu1 := hsu.1
        clear hsu
        by_cases hlt : k < R.length
        · obtain ⟨b6, o6, rfl, -, d6⟩ := rk_cells (R6.out.below HBK.out) (by omega)
          obtain ⟨d0, d1⟩ := d6 k hlt
          have HRK := Kp.mk (HRA.out _ (List.getElem_mem hlt))
          have HIK := HRI.out _ (List.getElem_mem hlt)
          have HST := Kp.mk (sumN_take hlt)
          clear d6
          generalize R[k] = f at *
          obtain ⟨x, n⟩ := f
          dsimp only at d0 d1 HRK HIK HST
          obtain ⟨hn0, hn1⟩ := HIK
          have hn2 : 1 ≤ n := HRK.out.2
          have q1 : (k : Int) < (R.length : Int) := by omega
          have q0 : (0 : Int) ≤ (k : Int) := by omega
          have HX := Kp.mk (heap_alloc_new wr (.cells #[.string x, .int .i64 n] 57))
          have HBX := Kp.mk (HBW.out.alloc hwz (.cells #[.string x, .int .i64 n] 57))
          have HBX6 := Kp.mk (HBK.out.alloc HBK.out.size (.cells #[.string x, .int .i64 n] 57))
          obtain ⟨wq, hwq⟩ : ∃ wq, wr.alloc (.cells #[.string x, .int .i64 n] 57) = wq := ⟨_, rfl⟩
          have HQZ := Kp.mk (show wq.heap.size = wr.heap.size + 1 by rw [← hwq]; simp)
          generalize sumN (R.take k) = SU at *
          go_upto_region 9 with fail
          rw [hwq] at HX HBX HBX6
          try rw [hwq]
          clear hwq d0 d1
          go_wp2_with fail
          refine (HTA.out wq HBX.out).mono ?_
          rintro e w7 ⟨u7, rfl, ho7, hb7⟩
          have HO7 := Kp.mk ho7
          have HB7 := Kp.mk (HBX.out.trans (hb7.mono HBX.out.size))
          have HB76 := Kp.mk (HBX6.out.trans (hb7.mono HBX6.out.size))
          have HX7 := Kp.mk ((hb7.block _ (blk_lt HX.out)).trans HX.out)
          have HZ7 := Kp.mk hb7.size
          obtain ⟨a7, c7, rfl⟩ := own_lenT ho7
          clear ho7 hb7
          go_wp2_with fail
          refine (HTB.out w7 HB7.out).mono ?_
          rintro e w8 ⟨u8, rfl, ho8, hb8⟩
          have HO8 := Kp.mk (own_stT HO7.out hb8)
          have R8 := Kp.mk (rk_rdl ho8)
          have HB8 := Kp.mk (HB7.out.trans (hb8.mono HB7.out.size))
          have HB86 := Kp.mk (HB76.out.trans (hb8.mono HB76.out.size))
          have HX8 := Kp.mk ((hb8.block _ (blk_lt HX7.out)).trans HX7.out)
          have hz8 : wq.heap.size ≤ w8.heap.size := Nat.le_trans HZ7.out hb8.size
          obtain ⟨a8, c8, rfl⟩ := own_lenT ho8
          clear ho8 hb8
          have HLR := Kp.mk (show (CA ++ CB).length ≤ 80 by rw [List.length_append]; have := HLC.out; omega)
          have n1 : (CA.length + CB.length) * 24 ≤ 140737488355328 := by have := HLC.out; omega
          have n2 : CA.length + CB.length ≤ maxLen := by have := HLC.out; unfold maxLen; omega
          go_wp2_with (first
            | (at_builtin; refine app_rdl (f := encSrw) (fun _ => rfl) encSrw_one rfl _ _ _ _ rfl Try.underlying34 _ Try.infoRk rfl (by omega) wq.heap.size (.slice a7 CA.length c7) CA.length _ rfl HO8.out (.slice a8 CB.length c8) rfl CB R8.out n1 n2 hz8 ?_; intro v9 w9 k1 k2; rw [← List.length_append, ← List.flatMap_append] at k1; generalize CA ++ CB = RC at *; have R9 := Kp.mk (rk_rdl k1); obtain ⟨a9, c9, rfl⟩ := own_lenT k1; have HB9 := Kp.mk (HB8.out.grown k2 HB8.out.size (fun j hj => by have := (HO8.out.lt j hj).1; have := HQZ.out; omega)); have HB96 := Kp.mk (HB86.out.grown k2 HB86.out.size (fun j hj => by have := (HO8.out.lt j hj).1; have := HQZ.out; have := HBK.out.size; omega)); have HX9 := Kp.mk ((k2.block _ (blk_lt HX8.out) (fun e => by have := (HO8.out.lt _ e.symm).1; have := HQZ.out; omega)).trans HX8.out); clear k1 k2)
            | fail)
          have hrc := HLR.out
          clear n1 n2 hz8 HO8 R8 HX7 HX8 HO7
          go_wp2_with fail
          go_loopw [9, 40] (fun vn vj wj => ∃ j : Nat, j ≤ RC.length ∧ vj = .int .i64 j ∧ vn = .int .i64 (selN (RC.take j) x) ∧ Below w9.heap.size w9 wj) (fun _ vj _ => RC.length - (intOf vj).toNat)
          case atStart => exact ⟨0, Nat.zero_le _, rfl, rfl, Below.refl _ _⟩
          case round =>
            obtain ⟨j, hj, rfl, rfl, hbj⟩ := hrel
            obtain ⟨wn, rfl⟩ : ∃ wn : World, wn = wr := ⟨_, rfl⟩
            have HBJ := Kp.mk hbj
            have hXj := (hbj.block _ (blk_lt HX9.out)).trans HX9.out
            have e0 := blk_cell (i := 0) hXj rfl
            have e1 := blk_cell (i := 1) hXj rfl
            have hzj := hbj.size
            have hxl := blk_lt hXj
            clear hbj hXj
            have hse := selN_in (L := RC.take j) (x := x) fun p hp => HIA.out p (List.mem_of_mem_take hp)
            rw [List.length_take] at hse
            have hse2 : selN (RC.take j) x ≤ 6400 := by omega
            have hse1 := hse.1
            clear hse
            by_cases hlj : j < RC.length
            · obtain ⟨b9, o9, rfl, -, d9⟩ := rk_cells (R9.out.below HBJ.out) (by omega)
              obtain ⟨d0, d1⟩ := d9 j hlj
              have HIJ := HIA.out _ (List.getElem_mem hlj)
              have HSE := Kp.mk (selN_take (x := x) hlj)
              clear d9
              generalize RC[j] = f at *
              obtain ⟨y, m⟩ := f
              dsimp only at d0 d1 HIJ HSE
              obtain ⟨hm0, hm1⟩ := HIJ
              have q3 : (j : Int) < (RC.length : Int) := by omega
              have q2 : (0 : Int) ≤ (j : Int) := by omega
              have HBA := Kp.mk (HBJ.out.alloc hzj (.cells #[.string y, .int .i64 m] 57))
              generalize selN (RC.take j) x = SE at *
              by_cases hy : y = x
              · have HS2 := Kp.mk (HSE.out.trans (by rw [if_pos hy]))
                have t1 : y.toList = x.toList := toL_eq.2 hy
                clear hy
                go_wp2_with fail
                go_roundw
                case rel => exact ⟨j + 1, by omega, by go_num, by rw [HS2.out], HBA.out⟩
                case measure => simp [intOf]; omega
              · have HS2 := Kp.mk (HSE.out.trans (by rw [if_neg hy]))
                have t1 : (y.toList == x.toList) = false := by rw [toL_beq, decide_eq_false hy]
                clear hy
                go_wp2_with fail
                go_roundw
                case rel => exact ⟨j + 1, by omega, by go_num, by rw [HS2.out, Int.add_zero], HBA.out⟩
                case measure => simp [intOf]; omega
            · have hjn : j = RC.length := by omega
              subst hjn
              have HSX := Kp.mk (show selN (RC.take RC.length) x = n by rw [List.take_length]; exact HRK.out.1)
              rw [HSX.out] at hse1 hse2 ⊢
              have HBZ := Kp.mk (show Below w6.heap.size w6 wn from HB96.out.trans (HBJ.out.mono HB96.out.size))
              have q4 : (k : Int) < (AB.length : Int) := by have := HRL.out; omega
              have t2 : decide (n < 1) = false := decide_eq_false (by omega)
              have t3 : decide ((AB.length : Int) < (k : Int)) = false := decide_eq_false (by omega)
              go_wp2_with fail
              go_roundw
              case rel => exact ⟨k + 1, by omega, by go_num, by rw [HST.out], HBZ.out⟩
              case measure => simp [intOf]; omega
        · have hkn : k = R.length := by omega
          subst hkn
          have HSU := Kp.mk (show sumN (R.take R.length) = (AB.length : Int) by rw [List.take_length]; exact HRS.out)
          rw [HSU.out] at hsu1 hsu2 ⊢
          go_wp2_with fail
          refine (HLV.out _).mono ?_
          rintro e w20 ⟨rfl, hb20⟩
          have HB20 := Kp.mk (HBW.out.trans (hb20.mono hwz))
          clear hb20
          go_wp2_with fail
          go_ret
          exact ⟨rfl, HB20.out⟩
theorem tparts_arg (v0 v1 : Value) (w : World) (h0 : Arg Try.prog w 22 v0) (h1 : Arg Try.prog w 22 v1) :
    Calls Try.prog 5 #[v0, v1] w fun e w' => e = .returned (.bool true) ∧ Below w.heap.size w w' := by
  obtain ⟨l, hl, hz⟩ := fld_args v0 w h0
  obtain ⟨m, hm, hy⟩ := fld_args v1 w h1
  exact tparts_walk v0 v1 l m w hl hm hz hy
end Go.Proofs.Ytocnecbhpofdgaa
