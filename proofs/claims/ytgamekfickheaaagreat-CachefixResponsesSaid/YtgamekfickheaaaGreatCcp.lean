/- What is said to caches (layer 21): what fields say, the document's. · What is said to caches (layer 21): Find, the document's. · What is said to caches (layer 21): Age, the document's; the law CacheAsks. · What is said to caches (layer 21): the law CacheAsks. -/
import Derived.Test.YtgamekfickheaaaGreatCck
import Derived.Test.YtgamekfickheaaaGreatCcg
import Derived.Test.YtgamekfickheaaaGreatQs
import Derived.RegionTactic
import Derived.BigQuiet
namespace Go.Proofs.YtgamekfickheaaaGreat
open Go.RowKit
set_option linter.unusedVariables false
set_option linter.unusedSimpArgs false

set_option maxRecDepth 100000 in
set_option maxHeartbeats 1000000 in
theorem rcontrol_any (vl : Value) (l : List Fld) (w : World) (hv : RdF w vl l) (hF : FewF l) : Calls Tryz.prog 68 #[vl] w (RetDl (ccD l) w) := by
  have hvz : (hJoin (hAll l nmCC)).size ≤ 50100 := hF.comb nmCC
  have HV := Kp.mk hv
  have HS := Kp.mk hF.sm
  have hl5 := hF.len
  have HP := Kp.mk (fun W => rparse21_any (hJoin (hAll l nmCC)) W (by omega))
  unfold RetD at HP
  clear hF hv
  go_enter Tryz.func68, Tryz.ntmps68
  go_wp2_with fail
  refine (rhcomb_any vl l nmCC _ HV.out HS.out (by omega) (by decide)).mono ?_
  rintro e w1 ⟨rfl, hb1⟩
  have HB1 := Kp.mk hb1
  clear hb1
  obtain ⟨D, hD⟩ : ∃ D, D = ccD l := ⟨_, rfl⟩
  have HDE := Kp.mk hD
  have hD2 : prs (hJoin (hAll l nmCC)) = D := hD.symm
  rw [hD2] at HP
  clear hD hD2
  generalize hJoin (hAll l nmCC) = v at *
  generalize hIs l nmCC = hi at *
  generalize prsOk v = ob at *
  go_wp2_with fail
  refine (HP.out _).mono ?_
  rintro e w2 ⟨u, rfl, ho, hb2⟩
  have HB2 := Kp.mk (HB1.out.trans (hb2.mono HB1.out.size))
  have HO := Kp.mk (own_low ho HB1.out.size)
  obtain ⟨a, c, rfl⟩ := own_lenH ho
  clear ho hb2
  go_wp2_with fail
  go_ret
  exact ⟨.slice a D.length c, rfl, by rw [← HDE.out]; exact HO.out, HB2.out⟩
set_option maxRecDepth 100000 in
set_option maxHeartbeats 1000000 in
theorem rprag_any (vl : Value) (l : List Fld) (w : World) (hv : RdF w vl l) (hF : FewF l) :
    Calls Tryz.prog 16 #[vl] w fun e w' => e = .returned (.bool (hasB (hJoin (hAll l nmPR)) vNC)) ∧ Below w.heap.size w w' := by
  have hvz : (hJoin (hAll l nmPR)).size ≤ 50100 := hF.comb nmPR
  have HV := Kp.mk hv
  have HS := Kp.mk hF.sm
  have hl5 := hF.len
  clear hF hv
  go_enter Tryz.func16, Tryz.ntmps16
  go_wp2_with fail
  refine (rhcomb_any vl l nmPR _ HV.out HS.out (by omega) (by decide)).mono ?_
  rintro e w1 ⟨rfl, hb1⟩
  have HB1 := Kp.mk hb1
  clear hb1
  generalize hIs l nmPR = hi at *
  go_wp2_with fail
  refine (rhas_any _ vNC _ (by omega) (by decide)).mono ?_
  rintro e w2 ⟨rfl, hb2⟩
  have HB2 := Kp.mk (HB1.out.trans (hb2.mono HB1.out.size))
  clear hb2
  go_wp2_with fail
  go_ret
  exact ⟨rfl, HB2.out⟩
end Go.Proofs.YtgamekfickheaaaGreat
namespace Go.Proofs.YtgamekfickheaaaGreat
open Go.RowKit
set_option linter.unusedVariables false
set_option linter.unusedSimpArgs false

def fdD (D : List Dir) (nm : ByteArray) : Dir := (D[fdN D nm]?).getD (⟨#[]⟩, ⟨#[]⟩, false)
def fdB (D : List Dir) (nm : ByteArray) : Bool := decide (fdN D nm < D.length)
theorem prs_low {v : ByteArray} : ∀ d ∈ prs v, lowB d.1 = d.1 := by
  intro d hd
  unfold prs at hd
  split at hd
  · obtain ⟨x, hx, rfl⟩ := List.mem_map.1 hd
    exact lowB_lowB _
  · cases hd
theorem fold_lowed {x nm : ByteArray} (h : lowB x = x) : foldB x nm = (x.toList == (lowB nm).toList) := by unfold foldB; rw [h]
theorem fd_at {D : List Dir} {nm : ByteArray} {k : Nat} (h : k < D.length) (hf : foldB D[k].1 nm = true) (hn : ∀ (j : Nat) (hj : j < D.length), j < k → foldB D[j].1 nm = false) : fdD D nm = D[k] ∧ fdB D nm = true := by
  have e : fdN D nm = k := (List.findIdx_eq h).2 ⟨hf, fun j hj => hn j (by omega) hj⟩
  unfold fdD fdB
  rw [e, List.getElem?_eq_getElem h]
  exact ⟨rfl, decide_eq_true h⟩
theorem fd_no {D : List Dir} {nm : ByteArray} (hn : ∀ (j : Nat) (hj : j < D.length), j < D.length → foldB D[j].1 nm = false) : fdD D nm = (⟨#[]⟩, ⟨#[]⟩, false) ∧ fdB D nm = false := by
  have e : fdN D nm = D.length := List.findIdx_eq_length.2 fun x hx => by
    obtain ⟨j, hj, rfl⟩ := List.getElem_of_mem hx
    exact hn j hj hj
  unfold fdD fdB
  rw [e, List.getElem?_eq_none (Nat.le_refl _)]
  exact ⟨rfl, decide_eq_false (Nat.lt_irrefl _)⟩
set_option maxRecDepth 100000 in
set_option maxHeartbeats 4000000 in
theorem rfind_any (vl : Value) (l : List Fld) (nm : ByteArray) (w : World) (hv : RdF w vl l) (hF : FewF l) (hn : nm.size ≤ 1000000) :
    Calls Tryz.prog 40 #[vl, .string nm] w fun e w' => e = .returned (.tuple #[.agg #[.string (fdD (ccD l) nm).1, .string (fdD (ccD l) nm).2.1, .bool (fdD (ccD l) nm).2.2], .bool (fdB (ccD l) nm)]) ∧ Below w.heap.size w w' := by
  have hvz : (hJoin (hAll l nmCC)).size ≤ 50100 := hF.comb nmCC
  have hlc : (ccD l).length ≤ 1000000 := by have h1 := prs_len (hJoin (hAll l nmCC)); unfold ccD; omega
  have HLW := Kp.mk (fun d (h : d ∈ ccD l) => prs_low (v := hJoin (hAll l nmCC)) d h)
  have HF := Kp.mk hF
  have HC := Kp.mk (fun W => rcontrol_any vl l W)
  unfold RetDl at HC
  have HB0 := Kp.mk ((Below.refl w.heap.size w).alloc (Nat.le_refl _) (.cells #[.string ⟨#[]⟩, .string ⟨#[]⟩, .bool false] 57))
  have HR0 := Kp.mk (Bl.new w 57 #[.string ⟨#[]⟩, .string ⟨#[]⟩, .bool false])
  have HV0 := Kp.mk (hv.below ((Below.refl w.heap.size w).alloc (Nat.le_refl _) (.cells #[.string ⟨#[]⟩, .string ⟨#[]⟩, .bool false] 57)))
  obtain ⟨D, hD⟩ : ∃ D, D = ccD l := ⟨_, rfl⟩
  have HDE := Kp.mk hD
  rw [← hD] at HLW HC hlc
  clear hD hF hv hvz
  go_enter Tryz.func40, Tryz.ntmps40
  go_wp2_with fail
  refine (HC.out _ HV0.out HF.out).mono ?_
  rintro e w1 ⟨u, rfl, ho, hb1⟩
  have HB1 := Kp.mk (HB0.out.trans (hb1.mono HB0.out.size))
  have HR1 := Kp.mk (HR0.out.below hb1)
  have HRD := Kp.mk (rdd_own ho)
  obtain ⟨a, c, rfl⟩ := own_lenH ho
  clear ho hb1
  go_wp2_with fail
  go_loopw [7] (fun i wr => ∃ k : Nat, k ≤ D.length ∧ i = .int .i64 k ∧ (∀ (j : Nat) (hj : j < D.length), j < k → foldB D[j].1 nm = false) ∧ Below w1.heap.size w1 wr) (fun i _ => D.length - (intOf i).toNat)
  case atStart => exact ⟨0, by omega, rfl, fun j _ h => by omega, Below.refl _ _⟩
  case round =>
    obtain ⟨k, hk, rfl, hh, hb⟩ := hrel
    have HB := Kp.mk hb
    have HH := Kp.mk hh
    have HBW := Kp.mk (HB1.out.trans (hb.mono HB1.out.size))
    have HRW := Kp.mk (HR1.out.below hb)
    clear hh hb
    by_cases hlt : k < D.length
    · obtain ⟨g, o, rfl, hgl, d0⟩ := rdd_cells (HRD.out.below HB.out) (by omega)
      obtain ⟨c1, c2, c3⟩ := d0 k hlt
      have q0 : (0 : Int) ≤ (k : Int) := by omega
      have q1 : (k : Int) < (D.length : Int) := by omega
      have HHit := Kp.mk (fun hf => fd_at (nm := nm) hlt hf HH.out)
      have HN := Kp.mk (fun (ht : foldB D[k].1 nm = false) => show ∀ (j : Nat) (hj : j < D.length), j < k + 1 → foldB D[j].1 nm = false from fun j hj h => by
        by_cases hjk : j = k
        · subst hjk; exact ht
        · exact HH.out j hj (by omega))
      have HFL := Kp.mk (fold_lowed (nm := nm) (HLW.out _ (List.getElem_mem hlt)))
      clear d0
      generalize D[k] = cx at *
      obtain ⟨x, y, b⟩ := cx
      dsimp only at c1 c2 c3
      have p0 := fun p : InS (Below wr.heap.size wr) => (p.ok.cell (p := ⟨g, o + k * 3, none⟩) hgl).trans c1
      have HD := Kp.mk (show Below wr.heap.size wr wr.drew from ⟨rfl, rfl, rfl, Nat.le_refl _, fun _ _ => rfl⟩)
      haveI hne : Nonempty (InS (Below wr.heap.size wr)) := ⟨⟨_, Below.refl _ _⟩⟩
      go_wp2_with fail
      refine region_in _ (by kernel_rfl) (by kernel_rfl) HD.out ?_
      repeat (go_big_quiet_step (first
        | (go_at_call 66; exact call_in fun w h => (ref_lower_any nm w (by omega)).mono fun _ _ h2 => ⟨h2.1, h.trans (h2.2.mono h.size)⟩)))
      refine wpQuiet_nil ?_
      intro _ hw'
      obtain ⟨wq, rfl⟩ := hw'
      have HQ := Kp.mk (HB.out.trans (wq.ok.mono HB.out.size))
      have HQW := Kp.mk (HBW.out.trans (wq.ok.mono HBW.out.size))
      have HRQ := Kp.mk (HRW.out.below wq.ok)
      have e1 := (wq.ok.cell (p := ⟨g, o + k * 3, none⟩) hgl).trans c1
      have e2 := (wq.ok.cell (p := ⟨g, o + k * 3 + 1, none⟩) hgl).trans c2
      have e3 := (wq.ok.cell (p := ⟨g, o + k * 3 + 2, none⟩) hgl).trans c3
      cases hf : (x.toList == (lowB nm).toList)
      · have HT2 := Kp.mk (HN.out (HFL.out.trans hf))
        go_wp2_with fail
        go_roundw
        case rel => exact ⟨k + 1, by omega, by go_num, HT2.out, HQ.out⟩
        case measure => simp [intOf]; omega
      · have HT2 := Kp.mk (HHit.out (HFL.out.trans hf))
        obtain ⟨r0, r1, r2⟩ := bl_cells HRQ.out
        have f0 := HRQ.out.free 0
        have f1 := HRQ.out.free 1
        have f2 := HRQ.out.free 2
        have HBE := Kp.mk (below_set3 HQW.out (.string x) (.string y) (.bool b))
        have HRE := Kp.mk (bl_set3 HRQ.out (.string x) (.string y) (.bool b))
        obtain ⟨k0, k1, k2⟩ := bl_cells HRE.out
        have k3 := HRE.out.lt
        go_wp2_with fail
        refine bodyPost_ret (v := .tuple #[.agg #[.string x, .string y, .bool b], .bool true]) (by simp [results, Tryz.results40, go_sem, k0, k1, k2, k3]) rfl ⟨by rw [← HDE.out, HT2.out.1, HT2.out.2], HBE.out⟩
    · have HT2 := Kp.mk (fd_no (D := D) (nm := nm) fun j hj _ => HH.out j hj (by omega))
      obtain ⟨r0, r1, r2⟩ := bl_cells HRW.out
      have f0 := HRW.out.free 0
      have f1 := HRW.out.free 1
      have f2 := HRW.out.free 2
      have HBE := Kp.mk (below_set3 HBW.out (.string ⟨#[]⟩) (.string ⟨#[]⟩) (.bool false))
      have HRE := Kp.mk (bl_set3 HRW.out (.string ⟨#[]⟩) (.string ⟨#[]⟩) (.bool false))
      obtain ⟨k0, k1, k2⟩ := bl_cells HRE.out
      have k3 := HRE.out.lt
      go_wp2_with fail
      refine bodyPost_ret (v := .tuple #[.agg #[.string ⟨#[]⟩, .string ⟨#[]⟩, .bool false], .bool false]) (by simp [results, Tryz.results40, go_sem, k0, k1, k2, k3]) rfl ⟨by rw [← HDE.out, HT2.out.1, HT2.out.2], HBE.out⟩
end Go.Proofs.YtgamekfickheaaaGreat
namespace Go.Proofs.YtgamekfickheaaaGreat
open Go.RowKit
set_option linter.unusedVariables false
set_option linter.unusedSimpArgs false

theorem quotedS_szD (x : ByteArray) : (quotedS x).size ≤ quotedN x := by
  unfold quotedS quotedN
  cases h : quotedL x.data.toList with
  | none => exact Nat.le_refl 0
  | some a =>
    obtain ⟨l, n⟩ := a
    simp only
    cases hl : x.data.toList with
    | nil => rw [hl] at h; simp [quotedL] at h
    | cons c r =>
      rw [hl] at h
      simp only [quotedL] at h
      split at h
      · have := qread_bound _ _ _ _ h
        rw [ba_size]; simp at this ⊢; omega
      · cases h
theorem vlD_size (x : ByteArray) : (vlD x).size ≤ x.size := by
  unfold vlD
  split
  · split
    · rw [upB_size, fromB_size]; omega
    · have h1 := quotedS_szD (fromB x (dN x + 1))
      have h2 := quotedN_le (fromB x (dN x + 1))
      rw [fromB_size] at h2
      omega
  · exact Nat.zero_le _
theorem prs_vals {v : ByteArray} : ∀ d ∈ prs v, d.2.1.size ≤ v.size := by
  intro d hd
  unfold prs at hd
  split at hd
  · obtain ⟨x, hx, rfl⟩ := List.mem_map.1 hd
    have h1 := vlD_size x
    have h2 := (splL_mem hx).2
    show (vlD x).size ≤ _
    omega
  · cases hd
theorem fdI_dec (D : List Dir) (nm : ByteArray) : decide (0 ≤ fdI D nm) = fdB D nm := by
  unfold fdI fdB
  by_cases h : fdN D nm < D.length
  · rw [if_pos h, decide_eq_true h]; exact decide_eq_true (by omega)
  · rw [if_neg h, decide_eq_false h]; rfl
theorem ageR_fd (D : List Dir) : ageR D = if fdB D nmMA = false then (0, false) else if numE 10 (fdD D nmMA).2.1 2147483647 = 0 then (numV 10 (fdD D nmMA).2.1 2147483647, true) else if numE 10 (fdD D nmMA).2.1 2147483647 = 5 then (2147483647, true) else (0, false) := by
  unfold ageR fdB fdD
  by_cases h : fdN D nmMA < D.length
  · rw [List.getElem?_eq_getElem h, decide_eq_true h]
    rfl
  · rw [List.getElem?_eq_none (by omega), decide_eq_false h]
    rfl
theorem fdD_val {D : List Dir} {nm : ByteArray} {m : Nat} (h : ∀ d ∈ D, d.2.1.size ≤ m) : (fdD D nm).2.1.size ≤ m := by
  unfold fdD
  by_cases hl : fdN D nm < D.length
  · rw [List.getElem?_eq_getElem hl]
    exact h _ (List.getElem_mem hl)
  · rw [List.getElem?_eq_none (by omega)]
    exact Nat.zero_le _
end Go.Proofs.YtgamekfickheaaaGreat
namespace Go.Proofs.YtgamekfickheaaaGreat
open Go.RowKit
set_option linter.unusedVariables false
set_option linter.unusedSimpArgs false

theorem ageR_no {D : List Dir} (h : fdB D nmMA = false) : ageR D = (0, false) := by rw [ageR_fd, if_pos h]
theorem ageR_yes {D : List Dir} (h : fdB D nmMA = true) : ageR D = if numE 10 (fdD D nmMA).2.1 2147483647 = 5 then (2147483647, true) else (numV 10 (fdD D nmMA).2.1 2147483647, (numE 10 (fdD D nmMA).2.1 2147483647 == 0)) := by
  rw [ageR_fd, if_neg (by rw [h]; decide)]
  generalize (fdD D nmMA).2.1 = s
  by_cases h0 : numE 10 s 2147483647 = 0
  · rw [if_pos h0, if_neg (by rw [h0]; decide), h0]; rfl
  · rw [if_neg h0]
    by_cases h5 : numE 10 s 2147483647 = 5
    · rw [if_pos h5, if_pos h5]
    · have hv : numV 10 s 2147483647 = 0 := if_neg h0
      rw [if_neg h5, if_neg h5, hv, beq_eq_false_iff_ne.2 h0]
set_option maxRecDepth 100000 in
set_option maxHeartbeats 2000000 in
theorem rage_any (vl : Value) (l : List Fld) (w : World) (hv : RdF w vl l) (hF : FewF l) :
    Calls Tryz.prog 53 #[vl] w fun e w' => e = .returned (.tuple #[.int .i64 (ageR (ccD l)).1, .bool (ageR (ccD l)).2]) ∧ Below w.heap.size w w' := by
  have hvz : (hJoin (hAll l nmCC)).size ≤ 50100 := hF.comb nmCC
  have hvs : (fdD (ccD l) nmMA).2.1.size ≤ 50100 := fdD_val fun d hd => by have := prs_vals (v := hJoin (hAll l nmCC)) d hd; omega
  have HNO := Kp.mk (fun h => ageR_no (D := ccD l) h)
  have HYE := Kp.mk (fun h => ageR_yes (D := ccD l) h)
  have HFN := Kp.mk (fun W h => rfind_any vl l nmMA W h hF (by decide))
  have HV := Kp.mk hv
  clear hF hv hvz
  obtain ⟨R, hR⟩ : ∃ R, R = ageR (ccD l) := ⟨_, rfl⟩
  have HRE := Kp.mk hR
  rw [← hR] at HNO HYE
  clear hR
  generalize fdD (ccD l) nmMA = d at *
  generalize fdB (ccD l) nmMA = fb at *
  obtain ⟨x, y, b⟩ := d
  dsimp only at hvs
  go_enter Tryz.func53, Tryz.ntmps53
  go_wp2_with fail
  refine (HFN.out _ HV.out).mono ?_
  rintro e w1 ⟨rfl, hb1⟩
  have HB1 := Kp.mk hb1
  have HBX := Kp.mk (hb1.alloc hb1.size (.cells #[.string x, .string y, .bool b] 57))
  clear hb1
  go_wp2_with fail
  refine (ref_number_10_any y 2147483647 _ (by unfold maxLen; omega) (by decide) (by decide)).mono ?_
  rintro e w2 ⟨rfl, rfl⟩
  cases fb
  · have HX := Kp.mk (HNO.out rfl)
    go_wp2_with fail
    go_ret2
    exact ⟨by rw [← HRE.out, HX.out]; rfl, HBX.out⟩
  · have HY := Kp.mk (HYE.out rfl)
    try dsimp only at HY
    generalize numE 10 y 2147483647 = er at *
    generalize numV 10 y 2147483647 = nv at *
    by_cases h5 : er = 5
    · have HX := Kp.mk (HY.out.trans (if_pos h5))
      subst h5
      go_wp2_with fail
      go_ret2
      exact ⟨by rw [← HRE.out, HX.out]; rfl, HBX.out⟩
    · have h5' : (er == 5) = false := beq_eq_false_iff_ne.2 h5
      have HX := Kp.mk (HY.out.trans (if_neg h5))
      clear h5
      go_wp2_with fail
      go_ret2
      exact ⟨by rw [← HRE.out, HX.out]; rfl, HBX.out⟩
theorem bb_sameE (b : Bool) : (b == b) = true := by cases b <;> rfl
theorem ii_sameE (r : Int) : (r == r) = true := by simp
theorem hlist_argE (v : Value) (w : World) (h : Arg Tryz.prog w 22 v) : ∃ l, RdF w v l ∧ ∀ p ∈ l, FldOk p :=
  h.list (f := fldC) (Q := FldOk) Tryz.underlying22 Tryz.fcellsFld (by omega) fun E hE =>
    fld_of Tryz.underlying32 Tryz.underlying9 Tryz.fcellsFld Tryz.fcellsFs ⟨_, rfl, rfl, rfl⟩ ⟨_, rfl, rfl, rfl⟩ hE
end Go.Proofs.YtgamekfickheaaaGreat
