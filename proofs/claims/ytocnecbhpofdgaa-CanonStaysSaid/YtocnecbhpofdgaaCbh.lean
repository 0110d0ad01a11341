/- CanonStays (layer 50): rows of fields: what stands in part of one, a field put in another's place, an append behind part of a row. -/
import Derived.Test.YtocnecbhpofdgaaCbg
import Derived.Test.YtocnecbhpofdgaaCbf
import Derived.Test.YtocnecbhpofdgaaHdi
import Derived.Test.YtocnecbhpofdgaaOpb
namespace Go.Proofs.Ytocnecbhpofdgaa
open Go.RowKit
set_option linter.unusedVariables false
set_option linter.unusedSimpArgs false

theorem wrap_idB {x : Int} (h1 : -9223372036854775808 ≤ x) (h2 : x < 9223372036854775808) : IntKind.i64.wrap x = x := by
  simp [IntKind.wrap, IntKind.signed, IntKind.bits, wrap64]
  split <;> omega
theorem fvH_appC (l m : List Fld) : fvH (l ++ m) = fvH l ++ fvH m := by unfold fvH; rw [List.flatMap_append]
theorem fvH_takeC {l : List Fld} {k : Nat} (h : k ≤ l.length) : fvH (l.take k) = (fvH l).take (k * 2) := by
  have e : fvH l = fvH (l.take k) ++ fvH (l.drop k) := by rw [← fvH_appC, List.take_append_drop]
  have hl : (fvH (l.take k)).length = k * 2 := by rw [fvH_len, List.length_take, Nat.min_eq_left h]
  rw [e, ← hl, List.take_left]
theorem fvH_dropC {l : List Fld} {k : Nat} (h : k ≤ l.length) (t : Nat) : (fvH (l.drop k))[t]? = (fvH l)[k * 2 + t]? := by
  have e : fvH l = fvH (l.take k) ++ fvH (l.drop k) := by rw [← fvH_appC, List.take_append_drop]
  have hl : (fvH (l.take k)).length = k * 2 := by rw [fvH_len, List.length_take, Nat.min_eq_left h]
  rw [e, List.getElem?_append_right (by omega), hl]
  congr 1
  omega
theorem rdf_allC {w : World} {b o n c : Nat} {l : List Fld} (h : RdF w (.slice (some ⟨b, o, none⟩) n c) l) : ∀ j u, (fvH l)[j]? = some u → w.cell? ⟨b, o + j, none⟩ = some u := by
  intro j u hj
  obtain ⟨a', c', e, hc1, hc2, h4⟩ := h
  cases e
  have h0 : 0 < l.length := by
    have := (List.getElem?_eq_some_iff.1 hj).1
    rw [fvH_len] at this
    omega
  obtain ⟨b', off, hb, hbl, hcell⟩ := h4 h0
  cases hb
  rw [fvH_at] at hj
  obtain ⟨p, hp, hq⟩ := Option.bind_eq_some_iff.1 hj
  obtain ⟨hlt, rfl⟩ := List.getElem?_eq_some_iff.1 hp
  have := hcell (j / 2) hlt (j % 2) (by omega)
  rw [hq] at this
  have e : o + j / 2 * 2 + j % 2 = o + j := by omega
  rw [e] at this
  exact this
theorem fvH_setC : ∀ (l : List Fld) (k : Nat) (h : k < l.length) (p : Fld), ((fvH l).set (k * 2) (.string p.1)).set (k * 2 + 1) (.string p.2) = fvH (l.set k p)
  | [], k, h, p => by simp at h
  | q :: l, 0, h, p => by simp [fvH, fldC]
  | q :: l, k + 1, h, p => by
    have := fvH_setC l k (by simpa using h) p
    have e : (k + 1) * 2 = k * 2 + 1 + 1 := by omega
    rw [e]
    show (Value.string q.1 :: Value.string q.2 :: (fvH l).set (k * 2) (.string p.1)).set (k * 2 + 1 + 1 + 1) _ = Value.string q.1 :: Value.string q.2 :: fvH (l.set k p)
    rw [← this]
    rfl
theorem own_storeC {w : World} {B : Nat} {e : TypeId} {n g cap k : Nat} {xs : List Value} {u : Value} (h : w.ownsRow B e 2 (.slice (some ⟨g, 0, none⟩) n cap) n xs) :
    (w.setCell ⟨g, k, none⟩ u).ownsRow B e 2 (.slice (some ⟨g, 0, none⟩) n cap) n (xs.set k u) := by
  refine ⟨by rw [List.length_set]; exact h.1, ?_⟩
  rcases h.2 with ⟨h2, _⟩ | ⟨g', cap', cur, h2, h3, hg, h4, h5, h6, h7⟩
  · cases h2
  · cases h2
    refine .inr ⟨g, cap, cur.setIfInBounds k u, rfl, h3, blk_set hg _, h4, h5, by rw [Array.size_setIfInBounds]; exact h6, ?_⟩
    rw [Array.toList_setIfInBounds, List.take_set, h7]
theorem own_freeC {w : World} {B : Nat} {e : TypeId} {sz n g cap : Nat} {xs : List Value} (h : w.ownsRow B e sz (.slice (some ⟨g, 0, none⟩) n cap) n xs) : B ≤ g ∧ g < w.heap.size ∧ n ≤ cap ∧ ∀ k, w.frozen? ⟨g, k, none⟩ = false := by
  rcases h.2 with ⟨h2, _⟩ | ⟨g', cap', cur, h2, h3, hg, h4, rest⟩
  · cases h2
  · cases h2
    exact ⟨h3, blk_lt hg, h4, fun k => blk_free hg⟩
theorem own_cellC {w : World} {B : Nat} {e : TypeId} {sz n g cap : Nat} {xs : List Value} (h : w.ownsRow B e sz (.slice (some ⟨g, 0, none⟩) n cap) n xs) {j : Nat} {u : Value} (hj : xs[j]? = some u) : w.cell? ⟨g, j, none⟩ = some u := by
  rcases h.2 with ⟨h2, _⟩ | ⟨g', cap', cur, h2, h3, hg, h4, h5, h6, h7⟩
  · cases h2
  · cases h2
    refine blk_cell hg ?_
    rw [← h7, List.getElem?_take] at hj
    split at hj
    · rwa [Array.getElem?_toList] at hj
    · cases hj
theorem litFC (W : World) {B : Nat} (hB : B ≤ W.heap.size) : (W.alloc (.cells #[] 64)).ownsRow B 64 2 (.slice (some ⟨W.heap.size, 0, none⟩) 0 0) 0 [] := by
  have := World.ownsRow_lit (base := B) (e := 64) (size := 2) W #[] 0 hB (by unfold maxLen; omega) rfl
  exact this
theorem oq_app_ownS {P : Program} {ops : Array Oper} {o : Oper} {a : Act} {w : World} {K : Act → World → Prop} {Q : Exit → Act → World → Prop} (hgd : o.guard = none) (s x : Operand) (t : TypeId)
    (ho : o.op = .call { callee := .builtin .append, args := #[s, x], argTypes := #[t, t] })
    (base : Nat) (e : TypeId) (z : Value) (size bytes : Nat) (ht : P.underlying t = some (.slice e)) (hi : (P.info? e).map (fun i => (i.zero, i.size, i.bytes)) = some (some z, size, bytes)) (hzs : z.cells.size = size) (hsz : 0 < size)
    (v : Value) (n : Nat) (xs : List Value) (hs : a.eval s = v) (hown : w.ownsRow base e size v n xs)
    (ad : Addr) (m c : Nat) (news : List Value) (hx : a.eval x = .slice (some ad) m c) (hl : news.length = m * size) (hnews : ∀ j u, news[j]? = some u → w.cell? (ad.add j) = some u) (h1 : ∀ u ∈ news, u.oneCell' = true)
    (h63 : n + m ≤ maxLen) (hbytes : (n + m) * bytes ≤ 140737488355328) (hbase : base ≤ w.heap.size)
    (h : ∀ v' w', w'.ownsRow base e size v' (n + m) (xs ++ news) → w.grownBy w' v.ownBlock → (v'.ownBlock = v.ownBlock ∨ v'.ownBlock = some w.heap.size) → K (a.put o.dst v') w') :
    if Region.wanted o (yielded ops a.tmps) = true then Oper.wp P o a w K Q else K (a.put o.dst undef) w := by
  obtain ⟨i0, hi, hz0, hz1, hz2⟩ := info_parts hi
  exact oq_app_own hgd s x t ho base e i0 z size bytes ht hi hz0 hz1 hz2 hzs hsz v n xs hs hown ad m c news hx hl hnews h1 h63 hbytes hbase h
/-- A list, cut at two neighbours. -/
theorem two_at {l : List Fld} {k : Nat} (h : k + 1 < l.length) : l = l.take k ++ l[k]'(by omega) :: l[k + 1] :: l.drop (k + 2) := by
  have h1 : l.drop k = l[k]'(by omega) :: l.drop (k + 1) := List.drop_eq_getElem_cons (by omega)
  have h2 : l.drop (k + 1) = l[k + 1] :: l.drop (k + 2) := List.drop_eq_getElem_cons h
  rw [← h2, ← h1, List.take_append_drop]
theorem turn_at {l : List Fld} {k : Nat} (h : k + 1 < l.length) : (l.set k l[k + 1]).set (k + 1) (l[k]'(by omega)) = l.take k ++ l[k + 1] :: l[k]'(by omega) :: l.drop (k + 2) := by
  have hl : (l.take k).length = k := by rw [List.length_take]; omega
  have e := two_at h
  generalize l[k]'(by omega) = a at *
  generalize l[k + 1] = b at *
  generalize l.take k = P at *
  generalize l.drop (k + 2) = R at *
  subst e
  subst hl
  simp
theorem stay_turn {l : List Fld} {k : Nat} (h : k + 1 < l.length) (hf : foldB (l[k]'(by omega)).1 l[k + 1].1 = false) : sameL (cSr l) (cSr ((l.set k l[k + 1]).set (k + 1) (l[k]'(by omega)))) = true := by
  rw [turn_at h]
  conv => lhs; arg 1; rw [two_at h]
  rw [cSr_turn _ _ _ _ (by rw [foldB_iff, decide_eq_false_iff_not] at hf; exact hf)]
  exact decide_eq_true rfl
theorem stay_both {l : List Fld} {k : Nat} {v : ByteArray} (h : k + 1 < l.length) (hs : sgB (l[k]'(by omega)).1 = false) :
    sameL (cSr (l.take k ++ ((l[k]'(by omega)).1, (l[k]'(by omega)).2 ++ ⟨#[44, 32]⟩ ++ v) :: l.drop (k + 1))) (cSr (l.take (k + 1) ++ ((l[k]'(by omega)).1, v) :: l.drop (k + 1))) = true := by
  rw [List.take_succ_eq_append_getElem (by omega), List.append_assoc, List.singleton_append]
  have e : l[k]'(by omega) = ((l[k]'(by omega)).1, (l[k]'(by omega)).2) := rfl
  generalize l[k]'(by omega) = a at *
  obtain ⟨n, a⟩ := a
  dsimp only at *
  rw [cSr_both _ _ n a v _ hs (by rw [cat_app, cat_app])]
  exact decide_eq_true rfl
theorem cSr_stay (l : List Fld) : sameL (cSr l) (cSr (cFld l)) = true ∧ sameL (cSr (cFld l)) (cSr l) = true := by
  rw [cSr_cFld]
  exact ⟨decide_eq_true rfl, decide_eq_true rfl⟩
theorem fvH_two {l : List Fld} {k : Nat} {a : Fld} (h : l[k]? = some a) : (fvH l)[k * 2]? = some (.string a.1) ∧ (fvH l)[k * 2 + 1]? = some (.string a.2) := by
  refine ⟨?_, ?_⟩
  · rw [fvH_at, show k * 2 / 2 = k by omega, show k * 2 % 2 = 0 by omega, h]; rfl
  · rw [fvH_at, show (k * 2 + 1) / 2 = k by omega, show (k * 2 + 1) % 2 = 1 by omega, h]; rfl
theorem own_formC {w : World} {B : Nat} {e : TypeId} {sz n c : Nat} {a : Option Addr} {xs : List Value} (h : w.ownsRow B e sz (.slice a n c) n xs) (hn : 0 < n) : ∃ g, a = some ⟨g, 0, none⟩ := by
  rcases h.2 with ⟨h2, h0⟩ | ⟨g, cap, cur, h2, _⟩
  · omega
  · cases h2
    exact ⟨g, rfl⟩
theorem sm_of {p : Fld} (h : p.1.size ≤ 100 ∧ p.2.size ≤ 700) : FldSm p := ⟨by omega, by omega⟩
theorem stay_facts {l : List Fld} {k : Nat} {v : ByteArray} (hk : k + 1 < l.length) (hs : ∀ p ∈ l, p.1.size ≤ 100 ∧ p.2.size ≤ 300) (hv : v.size ≤ 300) (hl : l.length ≤ 40) :
    ∃ (a c : Fld) (L2 T1 T2 : List Fld), l[k]? = some a ∧ l[k + 1]? = some c ∧ (a.1.size ≤ 100 ∧ a.2.size ≤ 300) ∧ (c.1.size ≤ 100 ∧ c.2.size ≤ 300) ∧
      ((((fvH l).set (k * 2) (.string c.1)).set (k * 2 + 1) (.string c.2)).set ((k + 1) * 2) (.string a.1)).set ((k + 1) * 2 + 1) (.string a.2) = fvH L2 ∧ L2.length = l.length ∧ (∀ p ∈ L2, FldSm p) ∧ (foldB a.1 c.1 = false → sameL (cSr l) (cSr L2) = true) ∧
      fvH (l.take k) ++ [.string a.1, .string (a.2 ++ ⟨#[44, 32]⟩ ++ v)] ++ fvH (l.drop (k + 1)) = fvH T1 ∧ T1.length = l.length ∧ (∀ p ∈ T1, FldSm p) ∧
      fvH (l.take (k + 1)) ++ [.string a.1, .string v] ++ fvH (l.drop (k + 1)) = fvH T2 ∧ T2.length = l.length + 1 ∧ (∀ p ∈ T2, FldSm p) ∧ (sgB a.1 = false → sameL (cSr T1) (cSr T2) = true) := by
  have hk0 : k < l.length := by omega
  have ha := hs _ (List.getElem_mem hk0)
  have hc := hs _ (List.getElem_mem hk)
  refine ⟨l[k], l[k + 1], (l.set k l[k + 1]).set (k + 1) l[k], l.take k ++ (l[k].1, l[k].2 ++ ⟨#[44, 32]⟩ ++ v) :: l.drop (k + 1), l.take (k + 1) ++ (l[k].1, v) :: l.drop (k + 1), List.getElem?_eq_getElem hk0, List.getElem?_eq_getElem hk, ha, hc, ?_, by simp, ?_, stay_turn hk, ?_, ?_, ?_, ?_, ?_, ?_, stay_both hk⟩
  · rw [fvH_setC l k hk0, fvH_setC (l.set k l[k + 1]) (k + 1) (by simpa using hk)]
  · intro p hp
    have : p ∈ l := by
      rcases List.mem_or_eq_of_mem_set hp with hp | rfl
      · rcases List.mem_or_eq_of_mem_set hp with hp | rfl
        · exact hp
        · exact List.getElem_mem hk
      · exact List.getElem_mem hk0
    have := hs p this
    exact sm_of ⟨this.1, by omega⟩
  · rw [fvH_appC, List.append_assoc]
    rfl
  · rw [List.length_append, List.length_cons, List.length_take, List.length_drop]; omega
  · intro p hp
    rcases List.mem_append.1 hp with hp | hp
    · have := hs p (List.mem_of_mem_take hp)
      exact sm_of ⟨this.1, by omega⟩
    · rcases List.mem_cons.1 hp with rfl | hp
      · refine sm_of ⟨ha.1, ?_⟩
        show (l[k].2 ++ ⟨#[44, 32]⟩ ++ v).size ≤ 700
        rw [ByteArray.size_append, ByteArray.size_append]
        show l[k].2.size + 2 + v.size ≤ 700
        omega
      · have := hs p (List.mem_of_mem_drop hp)
        exact sm_of ⟨this.1, by omega⟩
  · rw [fvH_appC, List.append_assoc]
    rfl
  · rw [List.length_append, List.length_cons, List.length_take, List.length_drop]; omega
  · intro p hp
    rcases List.mem_append.1 hp with hp | hp
    · have := hs p (List.mem_of_mem_take hp)
      exact sm_of ⟨this.1, by omega⟩
    · rcases List.mem_cons.1 hp with rfl | hp
      · exact sm_of ⟨ha.1, by show v.size ≤ 700; omega⟩
      · have := hs p (List.mem_of_mem_drop hp)
        exact sm_of ⟨this.1, by omega⟩
theorem ne_newC {w : World} {B : Nat} {e : TypeId} {sz n : Nat} {v : Value} {xs : List Value} (h : w.ownsRow B e sz v n xs) : v.ownBlock ≠ (Value.slice (some ⟨w.heap.size, 0, none⟩) 0 0).ownBlock := by
  intro he
  have := (h.lt _ he).2
  simp at this
theorem ne_appC {w : World} {B : Nat} {e : TypeId} {sz n : Nat} {vy vx v1 : Value} {xs : List Value} (h : w.ownsRow B e sz vy n xs) (hne : vy.ownBlock ≠ vx.ownBlock) (h3 : v1.ownBlock = vx.ownBlock ∨ v1.ownBlock = some w.heap.size) : vy.ownBlock ≠ v1.ownBlock := by
  intro he
  rcases h3 with h3 | h3
  · exact hne (he.trans h3)
  · have := (h.lt _ (he.trans h3)).2
    simp at this
theorem ne_anyC {w : World} {B : Nat} {e : TypeId} {sz n g c m : Nat} {vy vx : Value} {xs : List Value} (h : w.ownsRow B e sz vy n xs) (hne : vy.ownBlock ≠ vx.ownBlock) (h3 : vx.ownBlock = some g ∨ g = w.heap.size + 1) : vy.ownBlock ≠ (Value.slice (some ⟨g, 0, none⟩) m c).ownBlock := by
  intro he
  rcases h3 with h3 | h3
  · exact hne (he.trans h3.symm)
  · subst h3
    have := (h.lt _ he).2
    simp at this
    omega
theorem stay_nums {k n : Nat} (h : k + 1 < n) (hl : n ≤ 40) : k + 1 + 1 + (n - (k + 1)) = n + 1 ∧ k + 1 + (n - (k + 1)) = n ∧ (k + 1 + 1) * 32 ≤ 140737488355328 ∧ k + 1 + 1 ≤ maxLen ∧ k + 1 + 1 + (n - (k + 1)) ≤ maxLen ∧ (k + 1 + 1 + (n - (k + 1))) * 32 ≤ 140737488355328 ∧
    (k + 1) * 32 ≤ 140737488355328 ∧ k + 1 ≤ maxLen ∧ k + 1 + (n - (k + 1)) ≤ maxLen ∧ (k + 1 + (n - (k + 1))) * 32 ≤ 140737488355328 := by
  unfold maxLen
  refine ⟨?_, ?_, ?_, ?_, ?_, ?_, ?_, ?_, ?_, ?_⟩ <;> omega
end Go.Proofs.Ytocnecbhpofdgaa
