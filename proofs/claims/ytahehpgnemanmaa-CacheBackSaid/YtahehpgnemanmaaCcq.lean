/- What is said to caches (layer 21): directives that were read come back from their text (plain facts). -/
import Derived.Test.YtahehpgnemanmaaCcg
import Derived.Test.YtahehpgnemanmaaLsk
namespace Go.Proofs.Ytahehpgnemanmaa
open Go.RowKit
set_option linter.unusedVariables false
set_option linter.unusedSimpArgs false

/-- P7.3, for any texts that are elements. -/
theorem spl_join {L : List ByteArray} (hG : ∀ x ∈ L, Good x.data.toList ∧ trimB x = x ∧ x.size ≠ 0) : splB (hJoin L) = true ∧ splL (hJoin L) = L := by
  cases L with
  | nil => exact ⟨by decide +kernel, by decide +kernel⟩
  | cons e R =>
    have hJ : (hJoin (e :: R)).data.toList = e.data.toList ++ tl2 (R.map (·.data.toList)) := by
      unfold hJoin
      rw [List.map_cons, Lib.join_cons]
      simp [tl2]
    obtain ⟨fr, out, q1, q2⟩ := ps_join e.data.toList (R.map (·.data.toList)) (hJoin (e :: R)) hJ (hG e (List.mem_cons_self ..)).1 (fun r hr => by
      rw [List.mem_map] at hr
      obtain ⟨x, hx, rfl⟩ := hr
      exact (hG x (List.mem_cons_of_mem _ hx)).1)
    obtain ⟨g1, g2⟩ := spl_open q1
    refine ⟨g1, ?_⟩
    rw [g2, map_trim, q2]
    have hm : ((e.data.toList :: (R.map (·.data.toList)).map (32 :: ·)).map fun x => (⟨(trimL x).toArray⟩ : ByteArray)) = e :: R := by
      rw [List.map_cons, List.map_map, List.map_map]
      congr 1
      · exact (hG e (List.mem_cons_self ..)).2.1
      · refine (List.map_congr_left fun x hx => ?_).trans (List.map_id R)
        show (⟨(trimL (32 :: x.data.toList)).toArray⟩ : ByteArray) = x
        rw [trimL_blank]
        exact (hG x (List.mem_cons_of_mem _ hx)).2.1
    rw [hm]
    exact someL_all fun x hx => (hG x hx).2.2

theorem tokq_all {s : ByteArray} (h : tokenB s = true) : s.data.toList ≠ [] ∧ ∀ c ∈ s.data.toList, tcharB c.toNat = true := by
  simp only [tokenB, Bool.and_eq_true] at h
  refine ⟨by intro e; rw [e] at h; simp at h, ?_⟩
  have h2 := h.2
  unfold allB at h2
  rw [List.all_eq_true] at h2
  exact h2
theorem tokq_of {s : ByteArray} (h1 : s.data.toList ≠ []) (h2 : ∀ c ∈ s.data.toList, tcharB c.toNat = true) : tokenB s = true := by
  simp only [tokenB, Bool.and_eq_true]
  refine ⟨?_, by unfold allB; rw [List.all_eq_true]; exact h2⟩
  cases hl : s.data.toList with
  | nil => exact absurd hl h1
  | cons a b => rfl
theorem preq_split {P : Nat → Bool} {x : ByteArray} {A C : List UInt8} (hx : x.data.toList = A ++ C) (h : ∀ c ∈ A, P c.toNat = true) (hc : C = [] ∨ ∃ c r, C = c :: r ∧ P c.toNat = false) : preN P x = A.length := by
  unfold preN preLC
  rw [hx]
  clear hx
  induction A with
  | nil =>
    rcases hc with rfl | ⟨c, r, rfl, hc⟩
    · rfl
    · simp [List.takeWhile_cons, hc]
  | cons a A ih =>
    have ha := h a (by simp)
    rw [List.cons_append, List.takeWhile_cons, ha]
    simp [ih (fun c hc => h c (by simp [hc]))]
theorem upq_tok {x : ByteArray} (h0 : 0 < preN tcharB x) : tokenB (upB x (preN tcharB x)) = true := by
  have hle := preN_le tcharB x
  refine tokq_of (fun e => ?_) fun c hc => ?_
  · have := congrArg List.length e
    rw [upB_list, List.length_take, ← ba_size, List.length_nil] at this
    omega
  · rw [upB_list] at hc
    obtain ⟨j, hj, rfl⟩ := List.getElem_of_mem hc
    rw [List.length_take, ← ba_size] at hj
    rw [List.getElem_take, bt_list x j (by omega)]
    exact preN_in (by omega)
theorem lowq_tch : ∀ n, n < 256 → tcharB n = true → tcharB (lowN n) = true := by decide +kernel
theorem lowq_list (s : ByteArray) : (lowB s).data.toList = s.data.toList.map lowC := by simp [lowB, lowL]
theorem lowq_tok {s : ByteArray} (h : tokenB s = true) : tokenB (lowB s) = true := by
  obtain ⟨h1, h2⟩ := tokq_all h
  refine tokq_of (by rw [lowq_list]; simpa using h1) fun c hc => ?_
  rw [lowq_list, List.mem_map] at hc
  obtain ⟨d, hd, rfl⟩ := hc
  rw [lowC_toNat]
  exact lowq_tch _ d.toNat_lt (h2 d hd)
theorem qread_valsq : ∀ (l acc : List UInt8) (n : Nat) (x : List UInt8 × Nat), qread l acc n = some x → (∀ c ∈ acc, valueB c.toNat = true) → ∀ c ∈ x.1, valueB c.toNat = true
  | [], _, _, _, h, _ => by simp [qread] at h
  | [c], acc, n, x, h, ha => by
    unfold qread at h
    split at h
    · cases h; exact ha
    · cases h
  | c :: d :: r, acc, n, x, h, ha => by
    unfold qread at h
    split at h
    · cases h; exact ha
    · split at h
      · split at h
        · rename_i hd
          exact qread_valsq r _ _ x h (by intro e he; simp at he; rcases he with he | rfl; exact ha e he; exact hd)
        · cases h
      · split at h
        · rename_i hc
          exact qread_valsq (d :: r) _ _ x h (by intro e he; simp at he; rcases he with he | rfl; exact ha e he; exact hc)
        · cases h
theorem quotedq_ok (x : ByteArray) : quoteOk (quotedS x) = true := by
  unfold quoteOk
  rw [Bool.or_eq_true]
  right
  unfold quotedS
  cases h : quotedL x.data.toList with
  | none => rfl
  | some a =>
    obtain ⟨l, n⟩ := a
    simp only
    unfold allB
    rw [List.all_eq_true]
    simp only
    cases hl : x.data.toList with
    | nil => rw [hl] at h; simp [quotedL] at h
    | cons c r =>
      rw [hl] at h
      simp only [quotedL] at h
      split at h
      · exact qread_valsq r [] 1 (l, n) h (by simp)
      · cases h

/-! ### A directive's text parts from no comma -/
def quo3 : S3 := (true, false, 0)
theorem st3_tch : ∀ n, n < 256 → tcharB n = true → st3 op3 n = op3 ∧ n ≠ 44 := by decide +kernel
theorem st3_quo : ∀ n, n < 256 → n ≠ 34 → n ≠ 92 → st3 quo3 n = quo3 := by decide +kernel
theorem st3_pass (n : Nat) : st3 (true, true, 0) n = quo3 := rfl
theorem run3_cons {x : S3} {c : UInt8} {r : List UInt8} (h : in3 (st3 x c.toNat) = true ∨ c.toNat ≠ 44) : run3 x (c :: r) = run3 (st3 x c.toNat) r := by rw [run3, if_pos h]
theorem run3_tok : ∀ (l m : List UInt8), (∀ c ∈ l, tcharB c.toNat = true) → run3 op3 (l ++ m) = run3 op3 m
  | [], _, _ => rfl
  | c :: l, m, h => by
    obtain ⟨h1, h2⟩ := st3_tch c.toNat c.toNat_lt (h c (by simp))
    rw [List.cons_append, run3_cons (.inr h2), h1]
    exact run3_tok l m fun d hd => h d (by simp [hd])
theorem run3_esc : ∀ (l m : List UInt8), run3 quo3 (escL l ++ m) = run3 quo3 m
  | [], _ => rfl
  | c :: l, m => by
    have h1 : escL (c :: l) = escC c ++ escL l := by simp [escL]
    by_cases hs : c.toNat = 34 ∨ c.toNat = 92
    · rw [h1, escC_two hs]
      show run3 quo3 (92 :: c :: (escL l ++ m)) = _
      rw [run3_cons (.inl (by decide)), show st3 quo3 (92 : UInt8).toNat = (true, true, 0) from rfl, run3_cons (.inl (by rw [st3_pass]; rfl)), st3_pass]
      exact run3_esc l m
    · have e := st3_quo c.toNat c.toNat_lt (by omega) (by omega)
      rw [h1, escC_one hs]
      show run3 quo3 (c :: (escL l ++ m)) = _
      rw [run3_cons (.inl (by rw [e]; rfl)), e]
      exact run3_esc l m
theorem run3_quote {v : ByteArray} (h : quoteOk v = true) (m : List UInt8) : run3 op3 ((quoteS v).data.toList ++ m) = run3 op3 m := by
  cases ht : tokenB v
  · have hv : allB valueB v = true := by unfold quoteOk at h; rw [ht] at h; simpa using h
    have hl : (quoteS v).data.toList = 34 :: escL v.data.toList ++ [34] := by rw [(quoteS_yes ht hv).1]
    rw [hl]
    show run3 op3 (34 :: (escL v.data.toList ++ [34] ++ m)) = _
    rw [run3_cons (.inl (by decide)), show st3 op3 (34 : UInt8).toNat = quo3 from rfl, List.append_assoc, run3_esc]
    show run3 quo3 (34 :: m) = _
    rw [run3_cons (.inr (by decide))]
    rfl
  · rw [(quoteS_tok ht).1]
    exact run3_tok _ _ (tokq_all ht).2
/-- A directive that may be written as it was read. -/
structure DirG (d : Dir) : Prop where
  tok : tokenB d.1 = true
  low : lowB d.1 = d.1
  quo : quoteOk d.2.1 = true
  emp : d.2.2 = false → d.2.1 = ⟨#[]⟩
theorem dtT_list (d : Dir) : (dtT d).data.toList = d.1.data.toList ++ (if d.2.2 = true then 61 :: (quoteS d.2.1).data.toList else []) := by
  unfold dtT
  split
  · rw [cat_app, cat_app, List.append_assoc]; rfl
  · rw [List.append_nil]
theorem quote_ne {v : ByteArray} (h : quoteOk v = true) : (quoteS v).data.toList ≠ [] := by
  cases ht : tokenB v
  · have hv : allB valueB v = true := by unfold quoteOk at h; rw [ht] at h; simpa using h
    rw [(quoteS_yes ht hv).1]; simp
  · rw [(quoteS_tok ht).1]; exact (tokq_all ht).1
theorem tch_blank : ∀ n, n < 256 → tcharB n = true → blankN n = false := by decide +kernel
theorem quote_last {v : ByteArray} (h : quoteOk v = true) : ∃ r c, (quoteS v).data.toList = r ++ [c] ∧ blankC c = false := by
  cases ht : tokenB v
  · have hv : allB valueB v = true := by unfold quoteOk at h; rw [ht] at h; simpa using h
    exact ⟨34 :: escL v.data.toList, 34, by rw [(quoteS_yes ht hv).1], by decide⟩
  · obtain ⟨h1, h2⟩ := tokq_all ht
    rw [(quoteS_tok ht).1]
    rcases List.eq_nil_or_concat v.data.toList with e | ⟨r, c, e⟩
    · exact absurd e h1
    · rw [List.concat_eq_append] at e
      exact ⟨r, c, e, tch_blank _ c.toNat_lt (h2 c (by rw [e]; simp))⟩
theorem DirG.good {d : Dir} (h : DirG d) : Good (dtT d).data.toList := by
  unfold Good
  rw [dtT_list, run3_tok _ _ (tokq_all h.tok).2]
  split
  · rw [run3_cons (.inr (by decide)), show st3 op3 (61 : UInt8).toNat = op3 from rfl, ← List.append_nil (quoteS d.2.1).data.toList, run3_quote h.quo]
    rfl
  · rfl
theorem DirG.ne {d : Dir} (h : DirG d) : (dtT d).size ≠ 0 := by
  rw [ba_size, dtT_list, List.length_append]
  have := List.length_pos_iff.2 (tokq_all h.tok).1
  omega
theorem DirG.trim {d : Dir} (h : DirG d) : trimB (dtT d) = dtT d := by
  obtain ⟨h1, h2⟩ := tokq_all h.tok
  refine ba_ext ?_
  show trimL (dtT d).data.toList = _
  have hl := dtT_list d
  obtain ⟨a, A, ha⟩ := List.exists_cons_of_ne_nil h1
  have hfa : blankC a = false := tch_blank _ a.toNat_lt (h2 a (by rw [ha]; simp))
  have hlast : ∃ r c, (dtT d).data.toList = r ++ [c] ∧ blankC c = false := by
    rw [hl]
    split
    · obtain ⟨r, c, e, hc⟩ := quote_last h.quo
      exact ⟨d.1.data.toList ++ 61 :: r, c, by rw [e]; simp, hc⟩
    · rw [List.append_nil]
      rcases List.eq_nil_or_concat d.1.data.toList with e | ⟨r, c, e⟩
      · exact absurd e h1
      · rw [List.concat_eq_append] at e
        exact ⟨r, c, e, tch_blank _ c.toNat_lt (h2 c (by rw [e]; simp))⟩
  have hfirst : ∃ r, (dtT d).data.toList = a :: r := ⟨_, by rw [hl, ha]; rfl⟩
  obtain ⟨p, q, e, hp, hq, _⟩ := trimL_part (dtT d).data.toList
  have hp0 : p = [] := by
    cases p with
    | nil => rfl
    | cons x p =>
      obtain ⟨r, hr⟩ := hfirst
      rw [hr] at e
      simp at e
      have := hp x (by simp)
      rw [← e.1, hfa] at this; cases this
  have hq0 : q = [] := by
    rcases List.eq_nil_or_concat q with e2 | ⟨q2, x, e2⟩
    · exact e2
    · rw [List.concat_eq_append] at e2
      obtain ⟨r, c, hr, hc⟩ := hlast
      rw [hr, e2, ← List.append_assoc] at e
      have := (List.append_inj' e rfl).2
      simp at this
      have hx := hq x (by rw [e2]; simp)
      rw [← this, hc] at hx; cases hx
  rw [hp0, hq0] at e
  simp at e
  exact e.symm
theorem quoted_self {v : ByteArray} (ht : tokenB v = false) (hv : allB valueB v = true) {z : ByteArray} (hz : z.data.toList = (quoteS v).data.toList) : preN tcharB z = 0 ∧ quotedS z = v ∧ quotedN z = z.size ∧ 0 < z.size := by
  have hl : (quoteS v).data.toList = 34 :: escL v.data.toList ++ [34] := by rw [(quoteS_yes ht hv).1]
  have hall : ∀ c ∈ v.data.toList, valueB c.toNat = true := by unfold allB at hv; rw [List.all_eq_true] at hv; exact hv
  have hzs : z.size = (escL v.data.toList).length + 2 := by rw [ba_size, hz, hl]; simp
  have key : quotedL z.data.toList = some (v.data.toList, z.size) := by
    rw [hz, hl]
    show quotedL (34 :: (escL v.data.toList ++ [34])) = _
    rw [quotedL, if_pos (by decide), qread_back _ _ _ _ hall, hzs]
    simp; omega
  have h2 := quoted_some key
  refine ⟨preq_split (A := []) (C := 34 :: (escL v.data.toList ++ [34])) (by rw [hz, hl]; rfl) (by simp) (.inr ⟨34, _, rfl, by decide⟩), by rw [h2.1], h2.2, by omega⟩
/-- P21.3, of one directive. -/
theorem DirG.back {d : Dir} (h : DirG d) : okD (dtT d) = true ∧ dirOf (dtT d) = d := by
  obtain ⟨nm, vl, st⟩ := d
  obtain ⟨h1, h2⟩ := tokq_all h.tok
  have hpos : 0 < nm.data.toList.length := List.length_pos_iff.2 h1
  have hl := dtT_list (nm, vl, st)
  have hlow := h.low
  have hquo := h.quo
  have hemp := h.emp
  dsimp only at *
  generalize dtT (nm, vl, st) = y at *
  cases st
  · have hve := hemp rfl
    subst hve
    simp only [Bool.false_eq_true, if_false, List.append_nil] at hl
    obtain rfl : y = nm := ba_ext hl
    have hN : dN y = y.size := by
      unfold dN
      rw [preq_split (A := y.data.toList) (C := []) (by simp) h2 (.inl rfl), ba_size]
    have hs : setD y = false := by unfold setD; rw [hN]; simp
    refine ⟨?_, ?_⟩
    · unfold okD enD
      rw [hs, hN, decide_eq_true (by rw [ba_size]; exact hpos)]
      simp [fromB_size]
    · unfold dirOf nmD vlD
      rw [hs, hN, upB_all, hlow]
      rfl
  · simp only [if_true] at hl
    have hN : dN y = nm.data.toList.length := by
      unfold dN
      exact preq_split hl h2 (.inr ⟨61, _, rfl, by decide⟩)
    have hz : y.size = nm.data.toList.length + 1 + (quoteS vl).data.toList.length := by rw [ba_size, hl]; simp; omega
    have hb : bt y (dN y) = 61 := by
      rw [hN, ← bt_list y _ (by omega)]
      simp [hl]
    have hs : setD y = true := by unfold setD; rw [hb, hN, decide_eq_true (by omega)]; rfl
    have hf : (fromB y (dN y + 1)).data.toList = (quoteS vl).data.toList := by
      rw [fromB_list, hN, hl, show nm.data.toList ++ 61 :: (quoteS vl).data.toList = (nm.data.toList ++ [61]) ++ (quoteS vl).data.toList by simp, List.drop_left' (by simp)]
    have hnm : nmD y = nm := by
      unfold nmD
      rw [← hlow]
      rw [show upB y (dN y) = nm from ba_ext (by rw [upB_list, hN, hl, List.take_left' rfl])]
    have hfs : (fromB y (dN y + 1)).size = (quoteS vl).data.toList.length := by rw [ba_size, hf]
    cases ht : tokenB vl
    · have hv : allB valueB vl = true := by unfold quoteOk at hquo; rw [ht] at hquo; simpa using hquo
      obtain ⟨k1, k2, k3, k4⟩ := quoted_self ht hv hf
      have hK : dK y = 0 := k1
      have hQ : dQ y = (fromB y (dN y + 1)).size := k3
      refine ⟨?_, ?_⟩
      · unfold okD enD
        rw [hs, hK, hQ, decide_eq_true (show 0 < dN y by omega), decide_eq_true k4]
        simp [fromB_size]
        omega
      · unfold dirOf vlD
        rw [hnm, hs, hK, k2]
        rfl
    · have he : fromB y (dN y + 1) = vl := ba_ext (by rw [hf, (quoteS_tok ht).1])
      obtain ⟨g1, g2⟩ := tokq_all ht
      have hK : dK y = vl.size := by
        unfold dK
        rw [he, preq_split (A := vl.data.toList) (C := []) (by simp) g2 (.inl rfl), ba_size]
      have hvp : 0 < vl.size := by rw [ba_size]; exact List.length_pos_iff.2 g1
      have hqs : (quoteS vl).data.toList.length = vl.size := by rw [(quoteS_tok ht).1, ba_size]
      refine ⟨?_, ?_⟩
      · unfold okD enD
        rw [hs, hK, decide_eq_true (show 0 < dN y by omega), decide_eq_true hvp]
        simp [fromB_size, hvp]
        omega
      · unfold dirOf vlD
        rw [hnm, hs, hK, if_pos rfl, if_pos hvp, he, upB_all]
/-- What was read is such a one. -/
theorem dirG_of {x : ByteArray} (h : okD x = true) : DirG (dirOf x) := by
  unfold okD at h
  simp only [Bool.and_eq_true, decide_eq_true_eq] at h
  obtain ⟨h1, h2, _⟩ := h
  refine ⟨lowq_tok (upq_tok h1), lowB_lowB _, ?_, ?_⟩
  · show quoteOk (vlD x) = true
    unfold vlD
    split
    · split
      · rename_i hk
        unfold quoteOk
        rw [show tokenB (upB (fromB x (dN x + 1)) (dK x)) = true from upq_tok hk]
        rfl
      · exact quotedq_ok _
    · decide +kernel
  · intro hs
    have hs' : setD x = false := hs
    show vlD x = _
    unfold vlD
    rw [hs']
    rfl
theorem DirG.ok {d : Dir} (h : DirG d) : dtOk d = true := by
  unfold dtOk
  rw [h.quo, h.tok]
  cases hs : d.2.2
  · rw [h.emp hs]; rfl
  · rfl
/-- P21.3. -/
theorem prs_back {s : ByteArray} (h : prsOk s = true) : txOk (prs s) = true ∧ prsOk (txt (prs s)) = true ∧ prs (txt (prs s)) = prs s ∧ splL (txt (prs s)) = (prs s).map dtT := by
  have hG : ∀ d ∈ prs s, DirG d := fun d hd => by
    unfold prs at hd
    rw [if_pos h] at hd
    obtain ⟨x, hx, rfl⟩ := List.mem_map.1 hd
    unfold prsOk at h
    rw [Bool.and_eq_true] at h
    exact dirG_of (List.all_eq_true.1 h.2 x hx)
  generalize prs s = D at *
  have hok : txOk D = true := List.all_eq_true.2 fun d hd => (hG d hd).ok
  have ht : txt D = hJoin (D.map dtT) := by unfold txt; rw [hok]; rfl
  obtain ⟨j1, j2⟩ := spl_join (L := D.map dtT) fun x hx => by
    obtain ⟨d, hd, rfl⟩ := List.mem_map.1 hx
    exact ⟨(hG d hd).good, (hG d hd).trim, (hG d hd).ne⟩
  have hp : prsOk (hJoin (D.map dtT)) = true := by
    unfold prsOk
    rw [j1, j2, Bool.true_and, List.all_eq_true]
    intro x hx
    obtain ⟨d, hd, rfl⟩ := List.mem_map.1 hx
    exact (hG d hd).back.1
  rw [ht]
  refine ⟨hok, hp, ?_, j2⟩
  unfold prs
  rw [if_pos hp, j2, List.map_map]
  refine (List.map_congr_left fun d hd => ?_).trans (List.map_id D)
  exact (hG d hd).back.2
theorem quotedq_sz (x : ByteArray) : (quotedS x).size ≤ x.size := by
  have hle := quotedN_le x
  have : (quotedS x).size ≤ quotedN x := by
    unfold quotedS quotedN
    cases h : quotedL x.data.toList with
    | none => exact Nat.le_refl 0
    | some a =>
      obtain ⟨l, n⟩ := a
      simp only
      cases hl : x.data.toList with
      | nil => rw [hl] at h; simp [quotedL] at h
      | cons c r =>
        rw [hl] at h
        simp only [quotedL] at h
        split at h
        · have := qread_bound _ _ _ _ h
          rw [ba_size]; simp at this ⊢; omega
        · cases h
  omega
theorem prs_sm {s : ByteArray} (h : s.size ≤ 1000) : ∀ d ∈ prs s, DirSm d := fun d hd => by
  unfold prs at hd
  split at hd
  · obtain ⟨x, hx, rfl⟩ := List.mem_map.1 hd
    have hxs := (splL_mem hx).2
    refine ⟨?_, ?_⟩
    · show (nmD x).size ≤ 1000
      unfold nmD
      rw [lowB_size, upB_size]; omega
    · show (vlD x).size ≤ 1000
      unfold vlD
      split
      · split
        · rw [upB_size, fromB_size]; omega
        · have := quotedq_sz (fromB x (dN x + 1))
          rw [fromB_size] at this; omega
      · show 0 ≤ 1000; omega
  · cases hd
theorem prs_txz {s : ByteArray} (h : s.size ≤ 1000) (hok : prsOk s = true) : (txt (prs s)).size ≤ 100000000 ∧ ∀ x ∈ splL (txt (prs s)), x.size ≤ 100000 := by
  obtain ⟨h1, h2, h3, h4⟩ := prs_back hok
  have hsm := prs_sm h
  have hpl : (prs s).length ≤ 1001 := by
    unfold prs
    rw [if_pos hok, List.length_map]
    have := splL_len s; omega
  refine ⟨?_, fun x hx => ?_⟩
  · unfold txt
    rw [h1, if_pos rfl]
    have hc := hJoin_c (c := 10000) (L := (prs s).map dtT) fun x hx => by
      obtain ⟨d, hd, rfl⟩ := List.mem_map.1 hx
      exact dtT_size (hsm d hd)
    rw [List.length_map] at hc
    have : (prs s).length * (10000 + 2) ≤ 1001 * (10000 + 2) := Nat.mul_le_mul_right _ hpl
    omega
  · rw [h4] at hx
    obtain ⟨d, hd, rfl⟩ := List.mem_map.1 hx
    have := dtT_size (hsm d hd)
    omega
end Go.Proofs.Ytahehpgnemanmaa
