/- What is said to caches of another version (layer 31): what is done twice is done once; CachefixStays (bin/mkcxf.py). -/
import Derived.Test.YtgamekfickheaaaCxd
namespace Go.Proofs.Ytgamekfickheaaa
open Go.RowKit
set_option linter.unusedVariables false
set_option linter.unusedSimpArgs false

theorem hAll_appF (l e : List Fld) (nm : ByteArray) : hAll (l ++ e) nm = hAll l nm ++ hAll e nm := by
  unfold hAll
  rw [List.filter_append, List.map_append]
theorem hIs_mono {l : List Fld} {nm : ByteArray} (e : List Fld) (h : hIs l nm = true) : hIs (l ++ e) nm = true := by
  unfold hIs at h ⊢
  rw [hAll_appF]
  simp at h ⊢
  omega
theorem hIs_ownF {m : List Fld} {n x nm : ByteArray} (h : foldB n nm = true) : hIs (m ++ [(n, x)]) nm = true := by
  unfold hIs
  rw [hAll_appF]
  have : hAll [(n, x)] nm = [x] := by unfold hAll; simp [h]
  rw [this]
  simp
theorem hAll_adF {m : List Fld} {b : Bool} {n x nm : ByteArray} (h : foldB n nm = false) : hAll (adL m b n x) nm = hAll m nm := by
  rcases adL_cases m b n x with e | ⟨e, _⟩ <;> rw [e]
  rw [hAll_appF]
  have : hAll [(n, x)] nm = [] := by unfold hAll; simp [h]
  rw [this, List.append_nil]
theorem adL_anyF {m : List Fld} {b : Bool} {n x : ByteArray} (h : hIs m n = true) : adL m b n x = m := by
  cases b
  · rfl
  · exact adL_is h
theorem foldB_meF (x : ByteArray) : foldB x x = true := by unfold foldB; exact beq_self_eq_true _
/-- What stands behind was not there. -/
def ExF (l M : List Fld) : Prop := ∃ e, M = l ++ e ∧ ∀ p ∈ e, hIs l p.1 = false ∧ p.2.size ≠ 0
theorem ExF.refl (l : List Fld) : ExF l l := ⟨[], by simp, by simp⟩
theorem ExF.add {l M : List Fld} (h : ExF l M) (b : Bool) (n x : ByteArray) : ExF l (adL M b n x) := by
  obtain ⟨e, rfl, he⟩ := h
  rcases adL_cases (l ++ e) b n x with h2 | ⟨h2, _, h3, h4⟩ <;> rw [h2]
  · exact ⟨e, rfl, he⟩
  · refine ⟨e ++ [(n, x)], by rw [List.append_assoc], fun p hp => ?_⟩
    rcases List.mem_append.1 hp with hp | hp
    · exact he p hp
    · obtain rfl := List.mem_singleton.1 hp
      refine ⟨?_, h4⟩
      cases hi : hIs l n
      · rfl
      · rw [hIs_mono e hi] at h3; cases h3
theorem few_adF {m : List Fld} {b : Bool} {n x : ByteArray} (h : FewF m) (hl : m.length ≤ 49) (hn : n.size ≤ 1000) (hx : x.size ≤ 1000) : FewF (adL m b n x) := by
  rcases adL_cases m b n x with e | ⟨e, _⟩ <;> rw [e]
  · exact h
  · refine ⟨by rw [List.length_append]; simp; omega, fun p hp => ?_⟩
    rcases List.mem_append.1 hp with hp | hp
    · exact h.val p hp
    · obtain rfl := List.mem_singleton.1 hp; exact ⟨hn, hx⟩
theorem req_up (m : List Fld) {f t : Int} (hf : f ≤ 0) (ht : 0 < t) : reqL m f t = adL m (cPr m) nmCC vNC := by
  have a1 : ¬ 0 < f := by omega
  unfold reqL
  simp only [hf, ht, a1, decide_true, decide_false, Bool.true_and, Bool.false_and, adL_no]
theorem req_down (m : List Fld) {f t : Int} (hf : ¬ f ≤ 0) (ht : ¬ 0 < t) : reqL m f t = adL m (cHas m vNC) nmPR vNC := by
  have a1 : 0 < f := by omega
  have a2 : t ≤ 0 := by omega
  unfold reqL
  simp only [hf, a1, a2, decide_true, decide_false, Bool.true_and, Bool.false_and, adL_no]
theorem req_none (m : List Fld) {f t : Int} (h : (f ≤ 0 ∧ ¬ 0 < t) ∨ (¬ f ≤ 0 ∧ 0 < t)) : reqL m f t = m := by
  unfold reqL
  rcases h with ⟨hf, ht⟩ | ⟨hf, ht⟩
  · have a1 : ¬ 0 < f := by omega
    simp only [hf, ht, a1, decide_true, decide_false, Bool.true_and, Bool.false_and, adL_no]
  · have a1 : ¬ t ≤ 0 := by omega
    simp only [hf, a1, decide_true, decide_false, Bool.true_and, Bool.false_and, Bool.and_false, adL_no]
theorem reqL_again (l : List Fld) (f t : Int) : reqL (reqL l f t) f t = reqL l f t := by
  by_cases hf : f ≤ 0
  · by_cases ht : 0 < t
    · rw [req_up l hf ht]
      rcases adL_cases l (cPr l) nmCC vNC with h | ⟨h, _⟩
      · rw [h, req_up l hf ht, h]
      · rw [h, req_up _ hf ht]
        exact adL_anyF (hIs_ownF (foldB_meF _))
    · rw [req_none l (.inl ⟨hf, ht⟩), req_none l (.inl ⟨hf, ht⟩)]
  · by_cases ht : 0 < t
    · rw [req_none l (.inr ⟨hf, ht⟩), req_none l (.inr ⟨hf, ht⟩)]
    · rw [req_down l hf ht]
      rcases adL_cases l (cHas l vNC) nmPR vNC with h | ⟨h, _⟩
      · rw [h, req_down l hf ht, h]
      · rw [h, req_down _ hf ht]
        exact adL_anyF (hIs_ownF (foldB_meF _))
theorem reqL_ex (l : List Fld) (f t : Int) : ExF l (reqL l f t) := ((ExF.refl l).add _ _ _).add _ _ _
theorem reqL_len (l : List Fld) (f t : Int) : l.length ≤ (reqL l f t).length ∧ (reqL l f t).length ≤ l.length + 1 := by
  by_cases hf : f ≤ 0
  · by_cases ht : 0 < t
    · rw [req_up l hf ht]; exact adL_len _ _ _ _
    · rw [req_none l (.inl ⟨hf, ht⟩)]; omega
  · by_cases ht : 0 < t
    · rw [req_none l (.inr ⟨hf, ht⟩)]; omega
    · rw [req_down l hf ht]; exact adL_len _ _ _ _
theorem res_up (m : List Fld) {f t : Int} (n : Int) (hf : f ≤ 0) (ht : 0 < t) : resL m f t n = adL (adL m (cPr m) nmCC vNC) true nmCC (freV m n) := by
  have a1 : ¬ 0 < f := by omega
  unfold resL res4 res2
  simp only [hf, ht, a1, decide_true, decide_false, Bool.true_and, Bool.false_and, adL_no]
theorem res_down (m : List Fld) {f t : Int} (n : Int) (hf : ¬ f ≤ 0) (ht : ¬ 0 < t) : resL m f t n = adL (adL m (cHd m) nmPR vNC) (cHd m || (ageR (ccD m)).2) nmEX (expV m n) := by
  have a1 : 0 < f := by omega
  have a2 : t ≤ 0 := by omega
  unfold resL res4 res2
  simp only [hf, a1, a2, decide_true, decide_false, Bool.true_and, Bool.false_and, adL_no]
theorem res_none (m : List Fld) {f t : Int} (n : Int) (h : (f ≤ 0 ∧ ¬ 0 < t) ∨ (¬ f ≤ 0 ∧ 0 < t)) : resL m f t n = m := by
  unfold resL res4 res2
  rcases h with ⟨hf, ht⟩ | ⟨hf, ht⟩
  · have a1 : ¬ 0 < f := by omega
    simp only [hf, ht, a1, decide_true, decide_false, Bool.true_and, Bool.false_and, Bool.and_false, adL_no]
  · have a1 : ¬ t ≤ 0 := by omega
    simp only [hf, a1, decide_true, decide_false, Bool.true_and, Bool.false_and, Bool.and_false, adL_no]
theorem fold_f1 : foldB nmPR nmCC = false := by decide +kernel
theorem fold_f2 : foldB nmEX nmCC = false := by decide +kernel
theorem fold_f3 : foldB nmPR nmDT = false := by decide +kernel
theorem fold_f4 : foldB nmEX nmDT = false := by decide +kernel
theorem resL_again (l : List Fld) (f t n : Int) : resL (resL l f t n) f t n = resL l f t n := by
  by_cases hf : f ≤ 0
  · by_cases ht : 0 < t
    · rw [res_up l n hf ht]
      have h : adL (adL l (cPr l) nmCC vNC) true nmCC (freV l n) = l ∨ hIs (adL (adL l (cPr l) nmCC vNC) true nmCC (freV l n)) nmCC = true := by
        rcases adL_cases l (cPr l) nmCC vNC with h | ⟨h, _⟩
        · rw [h]
          rcases adL_cases l true nmCC (freV l n) with h2 | ⟨h2, _⟩
          · exact .inl h2
          · rw [h2]; exact .inr (hIs_ownF (foldB_meF _))
        · rw [h, adL_anyF (hIs_ownF (foldB_meF _))]
          exact .inr (hIs_ownF (foldB_meF _))
      rcases h with h | h
      · rw [h, res_up l n hf ht, h]
      · generalize adL (adL l (cPr l) nmCC vNC) true nmCC (freV l n) = M at *
        rw [res_up M n hf ht, adL_anyF h, adL_anyF h]
    · rw [res_none l n (.inl ⟨hf, ht⟩), res_none l n (.inl ⟨hf, ht⟩)]
  · by_cases ht : 0 < t
    · rw [res_none l n (.inr ⟨hf, ht⟩), res_none l n (.inr ⟨hf, ht⟩)]
    · have e1 : hAll (resL l f t n) nmCC = hAll l nmCC := by rw [res_down l n hf ht, hAll_adF fold_f2, hAll_adF fold_f1]
      have e2 : hAll (resL l f t n) nmDT = hAll l nmDT := by rw [res_down l n hf ht, hAll_adF fold_f4, hAll_adF fold_f3]
      have e3 : ccD (resL l f t n) = ccD l := by unfold ccD; rw [e1]
      have e4 : cHd (resL l f t n) = cHd l := by unfold cHd cHas; rw [e3]
      have e5 : hGet (resL l f t n) nmDT = hGet l nmDT := by unfold hGet; rw [e2]
      have e6 : basI (resL l f t n) n = basI l n := by unfold basI datS; rw [e5]
      have e7 : expV (resL l f t n) n = expV l n := by unfold expV; rw [e4, e6, e3]
      rw [res_down (resL l f t n) n hf ht, e3, e4, e7]
      rw [res_down l n hf ht]
      generalize cHd l = H
      generalize (ageR (ccD l)).2 = aged
      generalize expV l n = EV
      have hz : vNC.size ≠ 0 := by decide
      have s1 : adL (adL (adL l H nmPR vNC) (H || aged) nmEX EV) H nmPR vNC = adL (adL l H nmPR vNC) (H || aged) nmEX EV := by
        cases H
        · rfl
        · have h1 : hIs (adL l true nmPR vNC) nmPR = true := by
            cases hi : hIs l nmPR
            · rw [adL_yes hi hz]; exact hIs_ownF (foldB_meF _)
            · rw [adL_is hi]; exact hi
          refine adL_anyF ?_
          rcases adL_cases (adL l true nmPR vNC) (true || aged) nmEX EV with h | ⟨h, _⟩ <;> rw [h]
          · exact h1
          · exact hIs_mono _ h1
      rw [s1]
      generalize adL l H nmPR vNC = m1
      generalize (H || aged) = c
      cases c
      · rfl
      · cases hi : hIs m1 nmEX
        · by_cases hx : EV.size = 0
          · exact adL_emp hx
          · rw [adL_yes hi hx]; exact adL_anyF (hIs_ownF (foldB_meF _))
        · rw [adL_is hi]; exact adL_is hi
theorem resL_ex (l : List Fld) (f t n : Int) : ExF l (resL l f t n) := ((((ExF.refl l).add _ _ _).add _ _ _).add _ _ _).add _ _ _
theorem resL_lenF (l : List Fld) (f t n : Int) : l.length ≤ (resL l f t n).length ∧ (resL l f t n).length ≤ l.length + 2 := by
  by_cases hf : f ≤ 0
  · by_cases ht : 0 < t
    · rw [res_up l n hf ht]
      have h1 := adL_len l (cPr l) nmCC vNC
      have h2 := adL_len (adL l (cPr l) nmCC vNC) true nmCC (freV l n)
      omega
    · rw [res_none l n (.inl ⟨hf, ht⟩)]; omega
  · by_cases ht : 0 < t
    · rw [res_none l n (.inr ⟨hf, ht⟩)]; omega
    · rw [res_down l n hf ht]
      have h1 := adL_len l (cHd l) nmPR vNC
      have h2 := adL_len (adL l (cHd l) nmPR vNC) (cHd l || (ageR (ccD l)).2) nmEX (expV l n)
      omega
theorem reqL_few {l : List Fld} (f t : Int) (h : FewF l) (hl : l.length ≤ 40) : FewF (reqL l f t) := by
  unfold reqL
  refine few_adF (few_adF h (by omega) (by decide) (by decide)) ?_ (by decide) (by decide)
  have := (adL_len l (decide (f ≤ 0) && (decide (0 < t) && cPr l)) nmCC vNC).2
  omega
theorem resL_few {l : List Fld} (f t n : Int) (h : FewF l) (hl : l.length ≤ 40) : FewF (resL l f t n) := by
  have hez := expV_size l n
  have hfz := freV_size l n
  unfold resL res4 res2
  generalize (decide (0 < f) && decide (t ≤ 0)) = D
  generalize (decide (f ≤ 0) && decide (0 < t)) = U
  have h1 := (adL_len l (D && cHd l) nmPR vNC).2
  have h2 := (adL_len (adL l (D && cHd l) nmPR vNC) (D && (cHd l || (ageR (ccD l)).2)) nmEX (expV l n)).2
  have h3 := (adL_len (adL (adL l (D && cHd l) nmPR vNC) (D && (cHd l || (ageR (ccD l)).2)) nmEX (expV l n)) (U && cPr l) nmCC vNC).2
  exact few_adF (few_adF (few_adF (few_adF h (by omega) (by decide) (by decide)) (by omega) (by decide) (by omega)) (by omega) (by decide) (by decide)) (by omega) (by decide) (by omega)
/-- The elements ahead, and behind. -/
theorem RdL.preF {α : Type} {f : α → List Value} {sz : Nat} {w : World} {a : Option Addr} {c : Nat} {l : List α} (h : RdL f sz w (.slice a l.length c) l) {n : Nat} (hn : n ≤ l.length) : RdL f sz w (.slice a n c) (l.take n) := by
  obtain ⟨a', c', h1, h2, h3, h4⟩ := h
  cases h1
  have e : (l.take n).length = n := by rw [List.length_take]; omega
  refine ⟨a, c, by rw [e], by omega, h3, fun h0 => ?_⟩
  obtain ⟨b, o, g1, g2, g3⟩ := h4 (by omega)
  refine ⟨b, o, g1, g2, fun j hj i hi => ?_⟩
  rw [g3 j (by omega) i hi, List.getElem_take]
theorem rdf_suf {w : World} {g o c k : Nat} {l : List Fld} (h : RdF w (.slice (some ⟨g, o, none⟩) l.length c) l) (hn : k ≤ l.length) : RdF w (.slice (some ⟨g, o + k * 2, none⟩) (l.length - k) (c - k)) (l.drop k) := by
  obtain ⟨a', c', h1, h2, h3, h4⟩ := h
  cases h1
  refine ⟨some ⟨g, o + k * 2, none⟩, c - k, by rw [List.length_drop], by rw [List.length_drop]; omega, by omega, fun h0 => ?_⟩
  rw [List.length_drop] at h0
  obtain ⟨b, o', g1, g2, g3⟩ := h4 (by omega)
  cases g1
  refine ⟨g, o + k * 2, rfl, g2, fun j hj i hi => ?_⟩
  rw [List.length_drop] at hj
  have := g3 (k + j) (by omega) i hi
  rw [List.getElem_drop, ← this]
  congr 2
  omega
theorem op_app_fldsF {P : Program} {wr : World} {ops : Array Oper} {o : Oper} {a : Act} {K : Act → World → Prop} {Q : Exit → Act → World → Prop} (hgd : o.guard = none) (s x : Operand) (t e : TypeId)
    (ho : o.op = .call { callee := .builtin .append, args := #[s, x], argTypes := #[t, t] }) (ht : P.underlying t = some (.slice e)) (z : Value)
    (hi : (P.info? e).map (fun i => (i.zero, i.size, i.bytes)) = some (some z, 2, 32)) (hz : z.cells.size = 2) (B : Nat) (v : Value) (n : Nat) (xs : List Value) (hs : a.eval s = v) (hown : wr.ownsRow B e 2 v n xs)
    (vx : Value) (hx : a.eval x = vx) (l : List Fld) (hv : RdF wr vx l) (hlen : (n + l.length) * 32 ≤ 140737488355328) (hm : n + l.length ≤ maxLen) (hB : B ≤ wr.heap.size)
    (h : ∀ v' w', w'.ownsRow B e 2 v' (n + l.length) (xs ++ fvH l) → wr.grownBy w' v.ownBlock → K (a.put o.dst v') w') :
    if Region.wanted o (yielded ops a.tmps) = true then Oper.wp P o a wr K Q else K (a.put o.dst undef) wr := by
  rw [if_pos (by simp only [Region.wanted, hgd])]
  obtain ⟨i0, hi, hz0, hz1, hz2⟩ := info_parts hi
  obtain ⟨ad, c, rfl, hc1, hc2, h4⟩ := hv
  cases ad with
  | none =>
    have hl : l = [] := by
      rcases Nat.eq_zero_or_pos l.length with h0 | h0
      · exact List.eq_nil_of_length_eq_zero h0
      · obtain ⟨b, off, hb, _⟩ := h4 h0
        cases hb
    subst hl
    have hrun := run_append_zero (P := P) (w := wr) B t o.type e i0 2 ht hi v n xs hown c
    have := h v wr (by simpa [fvH] using hown) ⟨rfl, rfl, rfl, Nat.le_refl _, fun _ _ _ => rfl⟩
    simp only [List.length_nil] at hx
    unfold Oper.wp execOp
    simp only [ho, resolve, invoke, builtin, Sem.run_bind, Sem.run_pure, Result.andThen_ok, List.map_toArray, List.map_cons, List.map_nil, hs, hx, hrun]
    exact this
  | some ad =>
    have hnews : ∀ (j : Nat) (u : Value), (fvH l)[j]? = some u → wr.cell? (ad.add j) = some u := by
      intro j u hj
      have h0 : 0 < l.length := by
        have := (List.getElem?_eq_some_iff.1 hj).1
        rw [fvH_len] at this
        omega
      obtain ⟨b, off, hb, hbl, hcell⟩ := h4 h0
      cases hb
      rw [fvH_at] at hj
      obtain ⟨p, hp, hq⟩ := Option.bind_eq_some_iff.1 hj
      obtain ⟨hlt, rfl⟩ := List.getElem?_eq_some_iff.1 hp
      have := hcell (j / 2) hlt (j % 2) (by omega)
      rw [hq] at this
      have e : off + j / 2 * 2 + j % 2 = off + j := by omega
      rw [e] at this
      rw [Addr.add_lit]
      exact this
    obtain ⟨v', w', hr, h2, h3, h4, h5⟩ := run_append_own_at (P := P) wr B t o.type e i0 z 2 32 ht hi hz0 hz1 hz2 hz (by omega) v n xs hown ad l.length c (fvH l) (fvH_len l) hnews (fvH_one l) hm hlen hB
    unfold Oper.wp execOp
    simp only [ho, resolve, invoke, builtin, Sem.run_bind, Sem.run_pure, Result.andThen_ok, List.map_toArray, List.map_cons, List.map_nil, hs, hx, hr]
    exact h v' w' h2 h3
theorem fvH_app (l m : List Fld) : fvH (l ++ m) = fvH l ++ fvH m := by unfold fvH; rw [List.flatMap_append]
end Go.Proofs.Ytgamekfickheaaa
