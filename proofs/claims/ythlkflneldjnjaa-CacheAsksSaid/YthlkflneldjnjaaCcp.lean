/- What is said to caches (layer 21): what fields say, the document's. · What is said to caches (layer 21): Find, the document's. · What is said to caches (layer 21): Age, the document's; the law CacheAsks. · What is said to caches (layer 21): the law CacheAsks. -/
import Derived.Test.YthlkflneldjnjaaCci
import Derived.Test.YthlkflneldjnjaaCcg
import Derived.Test.YthlkflneldjnjaaQs
import Derived.RegionTactic
import Derived.BigQuiet
import Derived.Test.YthlkflneldjnjaaCck
import Derived.Test.YthlkflneldjnjaaCce
namespace Go.Proofs.Ythlkflneldjnjaa
open Go.RowKit
set_option linter.unusedVariables false
set_option linter.unusedSimpArgs false

set_option maxRecDepth 100000 in
set_option maxHeartbeats 1000000 in
theorem rcontrol_any (vl : Value) (l : List Fld) (w : World) (hv : RdF w vl l) (hF : FewF l) : Calls Try.prog 48 #[vl] w (RetDl (ccD l) w) := by
  have hvz : (hJoin (hAll l nmCC)).size ≤ 50100 := hF.comb nmCC
  have HV := Kp.mk hv
  have HS := Kp.mk hF.sm
  have hl5 := hF.len
  have HP := Kp.mk (fun W => rparse21_any (hJoin (hAll l nmCC)) W (by omega))
  unfold RetD at HP
  clear hF hv
  go_enter Try.func48, Try.ntmps48
  go_wp2_with fail
  refine (rhcomb_any vl l nmCC _ HV.out HS.out (by omega) (by decide)).mono ?_
  rintro e w1 ⟨rfl, hb1⟩
  have HB1 := Kp.mk hb1
  clear hb1
  obtain ⟨D, hD⟩ : ∃ D, D = ccD l := ⟨_, rfl⟩
  have HDE := Kp.mk hD
  have hD2 : prs (hJoin (hAll l nmCC)) = D := hD.symm
  rw [hD2] at HP
  clear hD hD2
  generalize hJoin (hAll l nmCC) = v at *
  generalize hIs l nmCC = hi at *
  generalize prsOk v = ob at *
  go_wp2_with fail
  refine (HP.out _).mono ?_
  rintro e w2 ⟨u, rfl, ho, hb2⟩
  have HB2 := Kp.mk (HB1.out.trans (hb2.mono HB1.out.size))
  have HO := Kp.mk (own_low ho HB1.out.size)
  obtain ⟨a, c, rfl⟩ := own_lenH ho
  clear ho hb2
  go_wp2_with fail
  go_ret
  exact ⟨.slice a D.length c, rfl, by rw [← HDE.out]; exact HO.out, HB2.out⟩
set_option maxRecDepth 100000 in
set_option maxHeartbeats 1000000 in
theorem rprag_any (vl : Value) (l : List Fld) (w : World) (hv : RdF w vl l) (hF : FewF l) :
    Calls Try.prog 51 #[vl] w fun e w' => e = .returned (.bool (hasB (hJoin (hAll l nmPR)) vNC)) ∧ Below w.heap.size w w' := by
  have hvz : (hJoin (hAll l nmPR)).size ≤ 50100 := hF.comb nmPR
  have HV := Kp.mk hv
  have HS := Kp.mk hF.sm
  have hl5 := hF.len
  clear hF hv
  go_enter Try.func51, Try.ntmps51
  go_wp2_with fail
  refine (rhcomb_any vl l nmPR _ HV.out HS.out (by omega) (by decide)).mono ?_
  rintro e w1 ⟨rfl, hb1⟩
  have HB1 := Kp.mk hb1
  clear hb1
  generalize hIs l nmPR = hi at *
  go_wp2_with fail
  refine (rhas_any _ vNC _ (by omega) (by decide)).mono ?_
  rintro e w2 ⟨rfl, hb2⟩
  have HB2 := Kp.mk (HB1.out.trans (hb2.mono HB1.out.size))
  clear hb2
  go_wp2_with fail
  go_ret
  exact ⟨rfl, HB2.out⟩
end Go.Proofs.Ythlkflneldjnjaa
namespace Go.Proofs.Ythlkflneldjnjaa
open Go.RowKit
set_option linter.unusedVariables false
set_option linter.unusedSimpArgs false

def fdD (D : List Dir) (nm : ByteArray) : Dir := (D[fdN D nm]?).getD (⟨#[]⟩, ⟨#[]⟩, false)
def fdB (D : List Dir) (nm : ByteArray) : Bool := decide (fdN D nm < D.length)
theorem prs_low {v : ByteArray} : ∀ d ∈ prs v, lowB d.1 = d.1 := by
  intro d hd
  unfold prs at hd
  split at hd
  · obtain ⟨x, hx, rfl⟩ := List.mem_map.1 hd
    exact lowB_lowB _
  · cases hd
theorem fold_lowed {x nm : ByteArray} (h : lowB x = x) : foldB x nm = (x.toList == (lowB nm).toList) := by unfold foldB; rw [h]
theorem fd_at {D : List Dir} {nm : ByteArray} {k : Nat} (h : k < D.length) (hf : foldB D[k].1 nm = true) (hn : ∀ (j : Nat) (hj : j < D.length), j < k → foldB D[j].1 nm = false) : fdD D nm = D[k] ∧ fdB D nm = true := by
  have e : fdN D nm = k := (List.findIdx_eq h).2 ⟨hf, fun j hj => hn j (by omega) hj⟩
  unfold fdD fdB
  rw [e, List.getElem?_eq_getElem h]
  exact ⟨rfl, decide_eq_true h⟩
theorem fd_no {D : List Dir} {nm : ByteArray} (hn : ∀ (j : Nat) (hj : j < D.length), j < D.length → foldB D[j].1 nm = false) : fdD D nm = (⟨#[]⟩, ⟨#[]⟩, false) ∧ fdB D nm = false := by
  have e : fdN D nm = D.length := List.findIdx_eq_length.2 fun x hx => by
    obtain ⟨j, hj, rfl⟩ := List.getElem_of_mem hx
    exact hn j hj hj
  unfold fdD fdB
  rw [e, List.getElem?_eq_none (Nat.le_refl _)]
  exact ⟨rfl, decide_eq_false (Nat.lt_irrefl _)⟩
set_option maxRecDepth 100000 in
set_option maxHeartbeats 4000000 in
theorem rfind_any (vl : Value) (l : List Fld) (nm : ByteArray) (w : World) (hv : RdF w vl l) (hF : FewF l) (hn : nm.size ≤ 1000000) :
    Calls Try.prog 46 #[vl, .string nm] w fun e w' => e = .returned (.tuple #[.agg #[.string (fdD (ccD l) nm).1, .string (fdD (ccD l) nm).2.1, .bool (fdD (ccD l) nm).2.2], .bool (fdB (ccD l) nm)]) ∧ Below w.heap.size w w' := by
  have hvz : (hJoin (hAll l nmCC)).size ≤ 50100 := hF.comb nmCC
  have hlc : (ccD l).length ≤ 1000000 := by have h1 := prs_len (hJoin (hAll l nmCC)); unfold ccD; omega
  have HLW := Kp.mk (fun d (h : d ∈ ccD l) => prs_low (v := hJoin (hAll l nmCC)) d h)
  have HF := Kp.mk hF
  have HC := Kp.mk (fun W => rcontrol_any vl l W)
  unfold RetDl at HC
  have HB0 := Kp.mk ((Below.refl w.heap.size w).alloc (Nat.le_refl _) (.cells #[.string ⟨#[]⟩, .string ⟨#[]⟩, .bool false] 50))
  have HR0 := Kp.mk (Bl.new w 50 #[.string ⟨#[]⟩, .string ⟨#[]⟩, .bool false])
  have HV0 := Kp.mk (hv.below ((Below.refl w.heap.size w).alloc (Nat.le_refl _) (.cells #[.string ⟨#[]⟩, .string ⟨#[]⟩, .bool false] 50)))
  obtain ⟨D, hD⟩ : ∃ D, D = ccD l := ⟨_, rfl⟩
  have HDE := Kp.mk hD
  rw [← hD] at HLW HC hlc
  clear hD hF hv hvz
  go_enter Try.func46, Try.ntmps46
  go_wp2_with fail
  refine (HC.out _ HV0.out HF.out).mono ?_
  rintro e w1 ⟨u, rfl, ho, hb1⟩
  have HB1 := Kp.mk (HB0.out.trans (hb1.mono HB0.out.size))
  have HR1 := Kp.mk (HR0.out.below hb1)
  have HRD := Kp.mk (rdd_own ho)
  obtain ⟨a, c, rfl⟩ := own_lenH ho
  clear ho hb1
  go_wp2_with fail
  go_loopw [7] (fun i wr => ∃ k : Nat, k ≤ D.length ∧ i = .int .i64 k ∧ (∀ (j : Nat) (hj : j < D.length), j < k → foldB D[j].1 nm = false) ∧ Below w1.heap.size w1 wr) (fun i _ => D.length - (intOf i).toNat)
  case atStart => exact ⟨0, by omega, rfl, fun j _ h => by omega, Below.refl _ _⟩
  case round =>
    obtain ⟨k, hk, rfl, hh, hb⟩ := hrel
    have HB := Kp.mk hb
    have HH := Kp.mk hh
    have HBW := Kp.mk (HB1.out.trans (hb.mono HB1.out.size))
    have HRW := Kp.mk (HR1.out.below hb)
    clear hh hb
    by_cases hlt : k < D.length
    · obtain ⟨g, o, rfl, hgl, d0⟩ := rdd_cells (HRD.out.below HB.out) (by omega)
      obtain ⟨c1, c2, c3⟩ := d0 k hlt
      have q0 : (0 : Int) ≤ (k : Int) := by omega
      have q1 : (k : Int) < (D.length : Int) := by omega
      have HHit := Kp.mk (fun hf => fd_at (nm := nm) hlt hf HH.out)
      have HN := Kp.mk (fun (ht : foldB D[k].1 nm = false) => show ∀ (j : Nat) (hj : j < D.length), j < k + 1 → foldB D[j].1 nm = false from fun j hj h => by
        by_cases hjk : j = k
        · subst hjk; exact ht
        · exact HH.out j hj (by omega))
      have HFL := Kp.mk (fold_lowed (nm := nm) (HLW.out _ (List.getElem_mem hlt)))
      clear d0
      generalize D[k] = cx at *
      obtain ⟨x, y, b⟩ := cx
      dsimp only at c1 c2 c3
      have p0 := fun p : InS (Below wr.heap.size wr) => (p.ok.cell (p := ⟨g, o + k * 3, none⟩) hgl).trans c1
      have HD := Kp.mk (show Below wr.heap.size wr wr.drew from ⟨rfl, rfl, rfl, Nat.le_refl _, fun _ _ => rfl⟩)
      haveI hne : Nonempty (InS (Below wr.heap.size wr)) := ⟨⟨_, Below.refl _ _⟩⟩
      go_wp2_with fail
      refine region_in _ (by kernel_rfl) (by kernel_rfl) HD.out ?_
      repeat (go_big_quiet_step (first
        | (go_at_call 61; exact call_in fun w h => (ref_lower_any nm w (by omega)).mono fun _ _ h2 => ⟨h2.1, h.trans (h2.2.mono h.size)⟩)))
      refine wpQuiet_nil ?_
      intro _ hw'
      obtain ⟨wq, rfl⟩ := hw'
      have HQ := Kp.mk (HB.out.trans (wq.ok.mono HB.out.size))
      have HQW := Kp.mk (HBW.out.trans (wq.ok.mono HBW.out.size))
      have HRQ := Kp.mk (HRW.out.below wq.ok)
      have e1 := (wq.ok.cell (p := ⟨g, o + k * 3, none⟩) hgl).trans c1
      have e2 := (wq.ok.cell (p := ⟨g, o + k * 3 + 1, none⟩) hgl).trans c2
      have e3 := (wq.ok.cell (p := ⟨g, o + k * 3 + 2, none⟩) hgl).trans c3
      cases hf : (x.toList == (lowB nm).toList)
      · have HT2 := Kp.mk (HN.out (HFL.out.trans hf))
        go_wp2_with fail
        go_roundw
        case rel => exact ⟨k + 1, by omega, by go_num, HT2.out, HQ.out⟩
        case measure => simp [intOf]; omega
      · have HT2 := Kp.mk (HHit.out (HFL.out.trans hf))
        obtain ⟨r0, r1, r2⟩ := bl_cells HRQ.out
        have f0 := HRQ.out.free 0
        have f1 := HRQ.out.free 1
        have f2 := HRQ.out.free 2
        have HBE := Kp.mk (below_set3 HQW.out (.string x) (.string y) (.bool b))
        have HRE := Kp.mk (bl_set3 HRQ.out (.string x) (.string y) (.bool b))
        obtain ⟨k0, k1, k2⟩ := bl_cells HRE.out
        have k3 := HRE.out.lt
        go_wp2_with fail
        refine bodyPost_ret (v := .tuple #[.agg #[.string x, .string y, .bool b], .bool true]) (by simp [results, Try.results46, go_sem, k0, k1, k2, k3]) rfl ⟨by rw [← HDE.out, HT2.out.1, HT2.out.2], HBE.out⟩
    · have HT2 := Kp.mk (fd_no (D := D) (nm := nm) fun j hj _ => HH.out j hj (by omega))
      obtain ⟨r0, r1, r2⟩ := bl_cells HRW.out
      have f0 := HRW.out.free 0
      have f1 := HRW.out.free 1
      have f2 := HRW.out.free 2
      have HBE := Kp.mk (below_set3 HBW.out (.string ⟨#[]⟩) (.string ⟨#[]⟩) (.bool false))
      have HRE := Kp.mk (bl_set3 HRW.out (.string ⟨#[]⟩) (.string ⟨#[]⟩) (.bool false))
      obtain ⟨k0, k1, k2⟩ := bl_cells HRE.out
      have k3 := HRE.out.lt
      go_wp2_with fail
      refine bodyPost_ret (v := .tuple #[.agg #[.string ⟨#[]⟩, .string ⟨#[]⟩, .bool false], .bool false]) (by simp [results, Try.results46, go_sem, k0, k1, k2, k3]) rfl ⟨by rw [← HDE.out, HT2.out.1, HT2.out.2], HBE.out⟩
end Go.Proofs.Ythlkflneldjnjaa
namespace Go.Proofs.Ythlkflneldjnjaa
open Go.RowKit
set_option linter.unusedVariables false
set_option linter.unusedSimpArgs false

theorem quotedS_szD (x : ByteArray) : (quotedS x).size ≤ quotedN x := by
  unfold quotedS quotedN
  cases h : quotedL x.data.toList with
  | none => exact Nat.le_refl 0
  | some a =>
    obtain ⟨l, n⟩ := a
    simp only
    cases hl : x.data.toList with
    | nil => rw [hl] at h; simp [quotedL] at h
    | cons c r =>
      rw [hl] at h
      simp only [quotedL] at h
      split at h
      · have := qread_bound _ _ _ _ h
        rw [ba_size]; simp at this ⊢; omega
      · cases h
theorem vlD_size (x : ByteArray) : (vlD x).size ≤ x.size := by
  unfold vlD
  split
  · split
    · rw [upB_size, fromB_size]; omega
    · have h1 := quotedS_szD (fromB x (dN x + 1))
      have h2 := quotedN_le (fromB x (dN x + 1))
      rw [fromB_size] at h2
      omega
  · exact Nat.zero_le _
theorem prs_vals {v : ByteArray} : ∀ d ∈ prs v, d.2.1.size ≤ v.size := by
  intro d hd
  unfold prs at hd
  split at hd
  · obtain ⟨x, hx, rfl⟩ := List.mem_map.1 hd
    have h1 := vlD_size x
    have h2 := (splL_mem hx).2
    show (vlD x).size ≤ _
    omega
  · cases hd
theorem fdI_dec (D : List Dir) (nm : ByteArray) : decide (0 ≤ fdI D nm) = fdB D nm := by
  unfold fdI fdB
  by_cases h : fdN D nm < D.length
  · rw [if_pos h, decide_eq_true h]; exact decide_eq_true (by omega)
  · rw [if_neg h, decide_eq_false h]; rfl
theorem ageR_fd (D : List Dir) : ageR D = if fdB D nmMA = false then (0, false) else if numE 10 (fdD D nmMA).2.1 2147483647 = 0 then (numV 10 (fdD D nmMA).2.1 2147483647, true) else if numE 10 (fdD D nmMA).2.1 2147483647 = 5 then (2147483647, true) else (0, false) := by
  unfold ageR fdB fdD
  by_cases h : fdN D nmMA < D.length
  · rw [List.getElem?_eq_getElem h, decide_eq_true h]
    rfl
  · rw [List.getElem?_eq_none (by omega), decide_eq_false h]
    rfl
theorem fdD_val {D : List Dir} {nm : ByteArray} {m : Nat} (h : ∀ d ∈ D, d.2.1.size ≤ m) : (fdD D nm).2.1.size ≤ m := by
  unfold fdD
  by_cases hl : fdN D nm < D.length
  · rw [List.getElem?_eq_getElem hl]
    exact h _ (List.getElem_mem hl)
  · rw [List.getElem?_eq_none (by omega)]
    exact Nat.zero_le _
end Go.Proofs.Ythlkflneldjnjaa
namespace Go.Proofs.Ythlkflneldjnjaa
open Go.RowKit
set_option linter.unusedVariables false
set_option linter.unusedSimpArgs false

theorem ageR_no {D : List Dir} (h : fdB D nmMA = false) : ageR D = (0, false) := by rw [ageR_fd, if_pos h]
theorem ageR_yes {D : List Dir} (h : fdB D nmMA = true) : ageR D = if numE 10 (fdD D nmMA).2.1 2147483647 = 5 then (2147483647, true) else (numV 10 (fdD D nmMA).2.1 2147483647, (numE 10 (fdD D nmMA).2.1 2147483647 == 0)) := by
  rw [ageR_fd, if_neg (by rw [h]; decide)]
  generalize (fdD D nmMA).2.1 = s
  by_cases h0 : numE 10 s 2147483647 = 0
  · rw [if_pos h0, if_neg (by rw [h0]; decide), h0]; rfl
  · rw [if_neg h0]
    by_cases h5 : numE 10 s 2147483647 = 5
    · rw [if_pos h5, if_pos h5]
    · have hv : numV 10 s 2147483647 = 0 := if_neg h0
      rw [if_neg h5, if_neg h5, hv, beq_eq_false_iff_ne.2 h0]
set_option maxRecDepth 100000 in
set_option maxHeartbeats 2000000 in
theorem rage_any (vl : Value) (l : List Fld) (w : World) (hv : RdF w vl l) (hF : FewF l) :
    Calls Try.prog 45 #[vl] w fun e w' => e = .returned (.tuple #[.int .i64 (ageR (ccD l)).1, .bool (ageR (ccD l)).2]) ∧ Below w.heap.size w w' := by
  have hvz : (hJoin (hAll l nmCC)).size ≤ 50100 := hF.comb nmCC
  have hvs : (fdD (ccD l) nmMA).2.1.size ≤ 50100 := fdD_val fun d hd => by have := prs_vals (v := hJoin (hAll l nmCC)) d hd; omega
  have HNO := Kp.mk (fun h => ageR_no (D := ccD l) h)
  have HYE := Kp.mk (fun h => ageR_yes (D := ccD l) h)
  have HFN := Kp.mk (fun W h => rfind_any vl l nmMA W h hF (by decide))
  have HV := Kp.mk hv
  clear hF hv hvz
  obtain ⟨R, hR⟩ : ∃ R, R = ageR (ccD l) := ⟨_, rfl⟩
  have HRE := Kp.mk hR
  rw [← hR] at HNO HYE
  clear hR
  generalize fdD (ccD l) nmMA = d at *
  generalize fdB (ccD l) nmMA = fb at *
  obtain ⟨x, y, b⟩ := d
  dsimp only at hvs
  go_enter Try.func45, Try.ntmps45
  go_wp2_with fail
  refine (HFN.out _ HV.out).mono ?_
  rintro e w1 ⟨rfl, hb1⟩
  have HB1 := Kp.mk hb1
  have HBX := Kp.mk (hb1.alloc hb1.size (.cells #[.string x, .string y, .bool b] 50))
  clear hb1
  go_wp2_with fail
  refine (ref_number_10_any y 2147483647 _ (by unfold maxLen; omega) (by decide) (by decide)).mono ?_
  rintro e w2 ⟨rfl, rfl⟩
  cases fb
  · have HX := Kp.mk (HNO.out rfl)
    go_wp2_with fail
    go_ret2
    exact ⟨by rw [← HRE.out, HX.out]; rfl, HBX.out⟩
  · have HY := Kp.mk (HYE.out rfl)
    try dsimp only at HY
    generalize numE 10 y 2147483647 = er at *
    generalize numV 10 y 2147483647 = nv at *
    by_cases h5 : er = 5
    · have HX := Kp.mk (HY.out.trans (if_pos h5))
      subst h5
      go_wp2_with fail
      go_ret2
      exact ⟨by rw [← HRE.out, HX.out]; rfl, HBX.out⟩
    · have h5' : (er == 5) = false := beq_eq_false_iff_ne.2 h5
      have HX := Kp.mk (HY.out.trans (if_neg h5))
      clear h5
      go_wp2_with fail
      go_ret2
      exact ⟨by rw [← HRE.out, HX.out]; rfl, HBX.out⟩
theorem bb_sameE (b : Bool) : (b == b) = true := by cases b <;> rfl
theorem ii_sameE (r : Int) : (r == r) = true := by simp
theorem hlist_argE (v : Value) (w : World) (h : Arg Try.prog w 22 v) : ∃ l, RdF w v l ∧ ∀ p ∈ l, FldOk p :=
  h.list (f := fldC) (Q := FldOk) Try.underlying22 Try.fcellsFld (by omega) fun E hE =>
    fld_of Try.underlying42 Try.underlying9 Try.fcellsFld Try.fcellsFs ⟨_, rfl, rfl, rfl⟩ ⟨_, rfl, rfl, rfl⟩ hE
set_option maxRecDepth 100000 in
set_option maxHeartbeats 4000000 in
theorem casks_walk (vl : Value) (l : List Fld) (nm : ByteArray) (w : World) (h1 : RdF w vl l) (z1 : ∀ p ∈ l, FldOk p) (hx : nm.size ≤ maxLen) :
    Calls Try.prog 11 #[vl, .string nm] w fun e w' => e = .returned (.bool true) ∧ Below w.heap.size w w' := by
  have H1 := Kp.mk h1
  have f1 := few10_any vl l w h1 z1
  unfold maxLen at hx
  cases hfl : hFew l
  · rw [hfl] at f1
    clear h1 z1
    go_enter Try.func11, Try.ntmps11
    go_wp2_with fail
    refine f1.mono ?_
    rintro e w1 ⟨rfl, hb1⟩
    have HB1 := Kp.mk hb1
    clear hb1
    go_wp2_with fail
    refine (lives21_any _).mono ?_
    rintro e w9 ⟨rfl, hb9⟩
    have HB9 := Kp.mk (HB1.out.trans (hb9.mono HB1.out.size))
    clear hb9
    go_wp2_with fail
    go_ret
    exact ⟨rfl, HB9.out⟩
  · rw [hfl] at f1
    have hF := fewF_of hfl
    clear z1 h1
    by_cases hq : nm.size ≤ 100
    · have q1 : ¬ (100 : Int) < (nm.size : Int) := by omega
      have hvz : (hJoin (hAll l nmCC)).size ≤ 50100 := hF.comb nmCC
      have hlc : (ccD l).length ≤ 1000000 := by have h1 := prs_len (hJoin (hAll l nmCC)); unfold ccD; omega
      have hz2 : ∀ d ∈ ccD l, d.2.1.size ≤ 1000000 := fun d hd => by have := prs_vals (v := hJoin (hAll l nmCC)) d hd; omega
      have HA1 := Kp.mk (fun W h => cage_any vl l W h hF hz2)
      have HA2 := Kp.mk (fun W h => rage_any vl l W h hF)
      have HF1 := Kp.mk (fun W h => rfind_any vl l nm W h hF (by omega))
      have HC1 := Kp.mk (fun W h => control_any vl l W h hF)
      have HC2 := Kp.mk (fun W h => rcontrol_any vl l W h hF)
      have HH1 := Kp.mk (fun W h => chas21_any vl l nm W h hF (by omega))
      have HP1 := Kp.mk (fun W h => cprag_any vl l W h hF)
      have HP2 := Kp.mk (fun W h => rprag_any vl l W h hF)
      rw [fdI_dec] at HH1
      unfold RetDl at HC1 HC2
      clear hz2 hvz hF
      generalize (ageR (ccD l)).1 = an at *
      generalize (ageR (ccD l)).2 = ab at *
      generalize fdB (ccD l) nm = fb at *
      generalize fdD (ccD l) nm = fd at *
      generalize ccD l = D at *
      generalize hasB (hJoin (hAll l nmPR)) vNC = pb at *
      obtain ⟨fx, fy, fz⟩ := fd
      have e1 := bb_sameE ab
      have e2 := bb_sameE fb
      have e3 := bb_sameE pb
      have e4 := ii_sameE an
      go_enter Try.func11, Try.ntmps11
      go_wp2_with fail
      refine f1.mono ?_
      rintro e w1 ⟨rfl, hb1⟩
      have HB1 := Kp.mk hb1
      clear hb1 f1
      go_wp2_with fail
      refine (HA1.out _ (H1.out.below HB1.out)).mono ?_
      rintro e w2 ⟨rfl, hb2⟩
      have HB2 := Kp.mk (HB1.out.trans (hb2.mono HB1.out.size))
      clear hb2
      go_wp2_with fail
      refine (HA2.out _ (H1.out.below HB2.out)).mono ?_
      rintro e w3 ⟨rfl, hb3⟩
      have HB3 := Kp.mk (HB2.out.trans (hb3.mono HB2.out.size))
      clear hb3
      go_wp2_with fail
      refine (HF1.out _ (H1.out.below HB3.out)).mono ?_
      rintro e w4 ⟨rfl, hb4⟩
      have HB4 := Kp.mk (HB3.out.trans (hb4.mono HB3.out.size))
      have HB4X := Kp.mk (HB4.out.alloc HB4.out.size (.cells #[.string fx, .string fy, .bool fz] 50))
      clear hb4
      go_wp2_with fail
      refine (HC1.out _ (H1.out.below HB4X.out)).mono ?_
      rintro e w5 ⟨u, rfl, ho, hb5⟩
      have HB5 := Kp.mk (HB4X.out.trans (hb5.mono HB4X.out.size))
      have RA := Kp.mk (rdd_own ho)
      obtain ⟨a5, c5, rfl⟩ := own_lenH ho
      clear ho hb5
      go_wp2_with fail
      refine (HC2.out _ (H1.out.below HB5.out)).mono ?_
      rintro e w6 ⟨u, rfl, ho, hb6⟩
      have HB6 := Kp.mk (HB5.out.trans (hb6.mono HB5.out.size))
      have RB := Kp.mk (rdd_own ho)
      have RA6 := Kp.mk (RA.out.below hb6)
      obtain ⟨a6, c6, rfl⟩ := own_lenH ho
      clear ho hb6
      go_wp2_with fail
      refine (same21_any _ _ D _ RA6.out RB.out hlc).mono ?_
      rintro e w7 ⟨rfl, hb7⟩
      have HB7 := Kp.mk (HB6.out.trans (hb7.mono HB6.out.size))
      clear hb7
      go_wp2_with fail
      refine (HH1.out _ (H1.out.below HB7.out)).mono ?_
      rintro e w8 ⟨rfl, hb8⟩
      have HB8 := Kp.mk (HB7.out.trans (hb8.mono HB7.out.size))
      clear hb8
      go_wp2_with fail
      refine (HP1.out _ (H1.out.below HB8.out)).mono ?_
      rintro e w9 ⟨rfl, hb9⟩
      have HB9 := Kp.mk (HB8.out.trans (hb9.mono HB8.out.size))
      clear hb9
      go_wp2_with fail
      refine (HP2.out _ (H1.out.below HB9.out)).mono ?_
      rintro e w10 ⟨rfl, hb10⟩
      have HB10 := Kp.mk (HB9.out.trans (hb10.mono HB9.out.size))
      clear hb10
      go_wp2_with fail
      refine (lives21_any _).mono ?_
      rintro e w11 ⟨rfl, hb11⟩
      have HB11 := Kp.mk (HB10.out.trans (hb11.mono HB10.out.size))
      clear hb11
      go_wp2_with fail
      go_ret
      exact ⟨rfl, HB11.out⟩
    · have q1 : (100 : Int) < (nm.size : Int) := by omega
      go_enter Try.func11, Try.ntmps11
      go_wp2_with fail
      refine f1.mono ?_
      rintro e w1 ⟨rfl, hb1⟩
      have HB1 := Kp.mk hb1
      clear hb1
      go_wp2_with fail
      refine (lives21_any _).mono ?_
      rintro e w9 ⟨rfl, hb9⟩
      have HB9 := Kp.mk (HB1.out.trans (hb9.mono HB1.out.size))
      clear hb9
      go_wp2_with fail
      go_ret
      exact ⟨rfl, HB9.out⟩
theorem casks_arg (v0 v1 : Value) (w : World) (h0 : Arg Try.prog w 22 v0) (h1 : Arg Try.prog w 9 v1) :
    Calls Try.prog 11 #[v0, v1] w fun e w' => e = .returned (.bool true) ∧ Below w.heap.size w w' := by
  obtain ⟨l, hv, hz⟩ := hlist_argE v0 w h0
  obtain ⟨x, rfl, hx⟩ := h1.str Try.underlying9
  exact casks_walk v0 l x w hv hz hx
end Go.Proofs.Ythlkflneldjnjaa
