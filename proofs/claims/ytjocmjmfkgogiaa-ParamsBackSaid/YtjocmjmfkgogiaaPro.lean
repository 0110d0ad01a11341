/- Words with parameters: what is printed is read as it was (layer 8). -/
import Derived.Test.YtjocmjmfkgogiaaPrn
namespace Go.Proofs.Ytjocmjmfkgogiaa
open Go.RowKit
set_option linter.unusedVariables false
set_option linter.unusedSimpArgs false

theorem preL_split {P : Nat → Bool} {A C : List UInt8} (h : ∀ c ∈ A, P c.toNat = true) (hc : C = [] ∨ ∃ c r, C = c :: r ∧ P c.toNat = false) : preL P (A ++ C) = A.length := by
  unfold preL
  induction A with
  | nil =>
    rcases hc with rfl | ⟨c, r, rfl, hc⟩
    · rfl
    · simp [List.takeWhile_cons, hc]
  | cons a A ih =>
    have ha := h a (by simp)
    rw [List.cons_append, List.takeWhile_cons, ha]
    simp [ih (fun c hc => h c (by simp [hc]))]
theorem preN_split {P : Nat → Bool} {x : ByteArray} {A C : List UInt8} (hx : x.data.toList = A ++ C) (h : ∀ c ∈ A, P c.toNat = true) (hc : C = [] ∨ ∃ c r, C = c :: r ∧ P c.toNat = false) : preN P x = A.length := by
  unfold preN; rw [hx]; exact preL_split h hc
theorem tok_all {s : ByteArray} (h : tokenB s = true) : s.data.toList ≠ [] ∧ ∀ c ∈ s.data.toList, tcharB c.toNat = true := by
  simp only [tokenB, Bool.and_eq_true] at h
  refine ⟨by intro e; rw [e] at h; simp at h, ?_⟩
  have h2 := h.2
  unfold allB at h2
  rw [List.all_eq_true] at h2
  exact h2
theorem tok_of {s : ByteArray} (h1 : s.data.toList ≠ []) (h2 : ∀ c ∈ s.data.toList, tcharB c.toNat = true) : tokenB s = true := by
  simp only [tokenB, Bool.and_eq_true]
  refine ⟨?_, by unfold allB; rw [List.all_eq_true]; exact h2⟩
  cases hl : s.data.toList with
  | nil => exact absurd hl h1
  | cons a b => rfl
theorem tchar_blank : ∀ n, n < 256 → tcharB n = true → blankN n = false := by decide +kernel
theorem t59 : tcharB 59 = false ∧ blankN 59 = false ∧ tcharB 61 = false ∧ blankN 61 = false ∧ tcharB 34 = false ∧ blankN 34 = false := by decide +kernel
theorem bt_head {x : ByteArray} {c : UInt8} {r : List UInt8} {k : Nat} (h : x.data.toList.drop k = c :: r) : k < x.size ∧ bt x k = c.toNat := by
  have hk : k < x.data.toList.length := by
    rcases Nat.lt_or_ge k x.data.toList.length with h1 | h1
    · exact h1
    · rw [List.drop_of_length_le h1] at h; cases h
  have hk2 : k < x.size := by rw [ba_size]; exact hk
  refine ⟨hk2, ?_⟩
  rw [← bt_list x k hk2]
  rw [List.drop_eq_getElem_cons hk] at h
  cases h
  rfl
theorem bt_end {x : ByteArray} {k : Nat} (h : x.data.toList.drop k = []) : ¬ k < x.size := by
  intro hk
  rw [List.drop_eq_nil_iff, ← ba_size] at h
  omega
/-- What stands behind a parameter: nothing, or another one. -/
def Nxt8 (rest : List UInt8) : Prop := rest = [] ∨ ∃ r, rest = 59 :: r
theorem Nxt8.tch {rest : List UInt8} (h : Nxt8 rest) : rest = [] ∨ ∃ c r, rest = c :: r ∧ tcharB c.toNat = false := by
  rcases h with h | ⟨r, h⟩
  · exact .inl h
  · exact .inr ⟨59, r, h, t59.1⟩
theorem Nxt8.bla {rest : List UInt8} (h : Nxt8 rest) : rest = [] ∨ ∃ c r, rest = c :: r ∧ blankN c.toNat = false := by
  rcases h with h | ⟨r, h⟩
  · exact .inl h
  · exact .inr ⟨59, r, h, t59.2.1⟩
structure HeadOf (x : ByteArray) (nm V : List UInt8) : Prop where
  semi : hasSemi x = true
  at_ : nameAt x = 1
  len : nameLen x = nm.length
  eq : eqAt x = 1 + nm.length
  end_ : nameEnd x = 1 + nm.length
  name : (upB (fromB x (nameAt x)) (nameLen x)).data.toList = nm
  pos : 0 < nameLen x
  behind : x.data.toList.drop (1 + nm.length) = V
theorem head_of {x : ByteArray} {nm V : List UInt8} (hx : x.data.toList = 59 :: (nm ++ V)) (hne : nm ≠ []) (hn : ∀ c ∈ nm, tcharB c.toNat = true) (hV : V = [] ∨ ∃ c r, V = c :: r ∧ tcharB c.toNat = false ∧ blankN c.toNat = false) : HeadOf x nm V := by
  have e0 : semiAt x = 0 := by
    unfold semiAt
    exact preN_split (A := []) (C := x.data.toList) rfl (by simp) (.inr ⟨59, _, hx, t59.2.1⟩)
  obtain ⟨hz, hb⟩ := bt_head (x := x) (k := 0) (c := 59) (by rw [List.drop_zero]; exact hx)
  have l1 : (fromB x 1).data.toList = nm ++ V := by rw [fromB_list, hx]; rfl
  obtain ⟨c0, r0, hc0⟩ : ∃ c r, nm = c :: r := by
    cases nm with
    | nil => exact absurd rfl hne
    | cons c r => exact ⟨c, r, rfl⟩
  have e1 : nameAt x = 1 := by
    unfold nameAt
    rw [e0, Nat.zero_add, preN_split (A := []) (C := nm ++ V) (by rw [l1]; rfl) (by simp) (.inr ⟨c0, r0 ++ V, by rw [hc0]; rfl, tchar_blank _ c0.toNat_lt (hn c0 (by rw [hc0]; simp))⟩)]
    rfl
  have e2 : nameLen x = nm.length := by
    unfold nameLen
    rw [e1]
    refine preN_split l1 hn ?_
    rcases hV with h | ⟨c, r, h, h2, _⟩
    · exact .inl h
    · exact .inr ⟨c, r, h, h2⟩
  have e3 : nameEnd x = 1 + nm.length := by unfold nameEnd; rw [e1, e2]
  have hd : x.data.toList.drop (1 + nm.length) = V := by
    rw [hx, Nat.add_comm, List.drop_succ_cons, List.drop_append_of_le_length (Nat.le_refl _), List.drop_length, List.nil_append]
  have e4 : eqAt x = 1 + nm.length := by
    unfold eqAt
    rw [e3, preN_split (A := []) (C := V) (by rw [fromB_list, hd]; rfl) (by simp) (by
      rcases hV with h | ⟨c, r, h, _, h2⟩
      · exact .inl h
      · exact .inr ⟨c, r, h, h2⟩)]
    rfl
  refine ⟨?_, e1, e2, e4, e3, ?_, ?_, hd⟩
  · unfold hasSemi
    rw [e0, hb, decide_eq_true hz]; rfl
  · rw [upB_list, e1, e2, l1]; simp
  · rw [e2, hc0]; simp
theorem lowB_of {x y : ByteArray} (h : x.data.toList = y.data.toList) : lowB x = lowB y := by rw [ba_ext h]
theorem val_at {x : ByteArray} {c : UInt8} {r : List UInt8} (hl : (fromB x (eqAt x + 1)).data.toList = c :: r) (hb : blankN c.toNat = false) : valAt x = eqAt x + 1 := by
  unfold valAt
  rw [preN_split (A := []) (C := c :: r) hl (by simp) (.inr ⟨c, r, rfl, hb⟩)]
  exact Nat.add_zero _
theorem drop_mid (E rest : List UInt8) : ((34 : UInt8) :: (E ++ 34 :: rest)).drop (1 + E.length + 1) = rest := by
  have h : 1 + E.length + 1 = (E.length + 1) + 1 := by omega
  rw [h, List.drop_succ_cons]
  have h2 : E ++ 34 :: rest = (E ++ [34]) ++ rest := by simp
  rw [h2, List.drop_append_of_le_length (by simp), List.drop_of_length_le (by simp)]
  rfl
theorem val_quo {x v q : ByteArray} {nm : ByteArray} {rest : List UInt8} (hS : hasSemi x = true) (hP : 0 < nameLen x) (he : hasEq x = true) (hN : parName x = nm) (hvv : allB valueB v = true) (hq : q = ⟨(34 :: escL v.data.toList ++ [34]).toArray⟩)
    (hl2 : (fromB x (eqAt x + 1)).data.toList = q.data.toList ++ rest) : parOk x = true ∧ parName x = nm ∧ parVal x = v ∧ (fromB x (parEnd x)).data.toList = rest := by
  have hql : q.data.toList = 34 :: (escL v.data.toList ++ [34]) := by rw [hq]; simp
  have hall : ∀ c ∈ v.data.toList, valueB c.toNat = true := by unfold allB at hvv; rw [List.all_eq_true] at hvv; exact hvv
  have hqr := qread_back v.data.toList [] rest 1 hall
  have hll : (34 :: (escL v.data.toList ++ [34])).length = 1 + (escL v.data.toList).length + 1 := by simp; omega
  have hap : escL v.data.toList ++ [34] ++ rest = escL v.data.toList ++ 34 :: rest := by simp
  rw [hql, List.cons_append, hap] at hl2
  clear hq hql hap hll
  generalize escL v.data.toList = E at *
  have hdr : ((34 : UInt8) :: (E ++ 34 :: rest)).drop (1 + E.length + 1) = rest := drop_mid E rest
  have ev := val_at hl2 t59.2.2.2.2.2
  have e0 : valLen x = 0 := by
    unfold valLen
    rw [ev]
    exact preN_split (A := []) (C := 34 :: (E ++ 34 :: rest)) hl2 (by simp) (.inr ⟨34, _, rfl, t59.2.2.2.2.1⟩)
  have hqq : quotedL (fromB x (valAt x)).data.toList = some (v.data.toList, 1 + E.length + 1) := by
    rw [ev, hl2]
    have h34 : (34 : UInt8).toNat = 34 := by decide
    unfold quotedL
    simp only [h34, if_true]
    rw [hqr]
    rfl
  obtain ⟨q1, q2⟩ := quoted_some hqq
  have q1' : quotedS (fromB x (valAt x)) = v := by rw [q1]
  refine ⟨?_, hN, ?_, ?_⟩
  · unfold parOk
    rw [hS, decide_eq_true hP, he, e0, q2]
    simp
  · unfold parVal; rw [he, e0]; simp [q1']
  · unfold parEnd
    rw [he, e0, q2]
    simp only [if_true, Nat.lt_irrefl, if_false]
    rw [fromB_list, ev, ← List.drop_drop, ← fromB_list x (eqAt x + 1), hl2, hdr]
theorem val_tok {x v : ByteArray} {nm : ByteArray} {rest : List UInt8} (hS : hasSemi x = true) (hP : 0 < nameLen x) (he : hasEq x = true) (hN : parName x = nm) (ht : tokenB v = true)
    (hl2 : (fromB x (eqAt x + 1)).data.toList = v.data.toList ++ rest) (hr : Nxt8 rest) : parOk x = true ∧ parName x = nm ∧ parVal x = v ∧ (fromB x (parEnd x)).data.toList = rest := by
  obtain ⟨vne, vall⟩ := tok_all ht
  have hpos : 0 < v.data.toList.length := List.length_pos_iff.2 vne
  have ev : valAt x = eqAt x + 1 := by
    cases hh : v.data.toList with
    | nil => exact absurd hh vne
    | cons c r =>
      rw [hh] at hl2
      exact val_at hl2 (tchar_blank _ c.toNat_lt (vall c (by rw [hh]; simp)))
  have e0 : valLen x = v.data.toList.length := by
    unfold valLen
    rw [ev]
    exact preN_split hl2 vall hr.tch
  refine ⟨?_, hN, ?_, ?_⟩
  · unfold parOk; rw [hS, decide_eq_true hP, he, e0, decide_eq_true hpos]; rfl
  · unfold parVal
    rw [he, e0]
    simp only [if_true, if_pos hpos]
    exact ba_ext (by rw [upB_list, ev, hl2]; simp)
  · unfold parEnd
    rw [he, e0]
    simp only [if_true, if_pos hpos]
    rw [fromB_list, ev, ← List.drop_drop, ← fromB_list x (eqAt x + 1), hl2]
    simp
/-- A parameter that was written is read as it was. -/
theorem one_back {x : ByteArray} {p : Par} {rest : List UInt8} (hn : tokenB p.1 = true) (hq : quoteOk p.2 = true) (hr : Nxt8 rest) (hx : x.data.toList = onePar p ++ rest) :
    parOk x = true ∧ parName x = lowB p.1 ∧ parVal x = p.2 ∧ (fromB x (parEnd x)).data.toList = rest := by
  obtain ⟨hne, hall⟩ := tok_all hn
  unfold onePar at hx
  by_cases hv : p.2.size = 0
  · rw [if_pos hv, List.append_nil] at hx
    have H := head_of (nm := p.1.data.toList) (V := rest) hx hne hall (by
      rcases hr with h | ⟨r, h⟩
      · exact .inl h
      · exact .inr ⟨59, r, h, t59.1, t59.2.1⟩)
    have he : hasEq x = false := by
      unfold hasEq
      rw [H.eq]
      rcases hr with h | ⟨r, h⟩
      · rw [decide_eq_false (bt_end (by rw [H.behind, h]))]; rfl
      · have := bt_head (x := x) (by rw [H.behind, h])
        rw [this.2]
        simp
    have hp20 : p.2.data.toList = [] := List.eq_nil_of_length_eq_zero (by rw [← ba_size]; exact hv)
    have hp2 : p.2 = ⟨#[]⟩ := ba_ext (by rw [hp20])
    refine ⟨?_, ?_, ?_, ?_⟩
    · unfold parOk; rw [H.semi, decide_eq_true H.pos, he]; rfl
    · unfold parName; exact lowB_of H.name
    · unfold parVal; rw [he, hp2]; rfl
    · unfold parEnd; rw [he, fromB_list]; simp only [Bool.false_eq_true, if_false]; rw [H.end_, H.behind]
  · rw [if_neg hv] at hx
    have H := head_of (nm := p.1.data.toList) (V := 61 :: (quoteS p.2).data.toList ++ rest) (by rw [hx]; simp) hne hall (.inr ⟨61, _, rfl, t59.2.2.1, t59.2.2.2.1⟩)
    have he : hasEq x = true := by
      unfold hasEq
      have := bt_head (x := x) (k := eqAt x) (c := 61) (r := (quoteS p.2).data.toList ++ rest) (by rw [H.eq, H.behind]; rfl)
      rw [this.2, decide_eq_true this.1]; rfl
    have hl2 : (fromB x (eqAt x + 1)).data.toList = (quoteS p.2).data.toList ++ rest := by
      rw [fromB_list, H.eq, ← List.drop_drop, H.behind]; rfl
    have hN : parName x = lowB p.1 := by unfold parName; exact lowB_of H.name
    have hS := H.semi
    have hP := H.pos
    clear H hx
    cases ht : tokenB p.2
    · have hvv : allB valueB p.2 = true := by unfold quoteOk at hq; rw [ht] at hq; simpa using hq
      exact val_quo hS hP he hN hvv (quoteS_yes ht hvv).1 hl2
    · exact val_tok hS hP he hN ht (by rw [(quoteS_tok ht).1] at hl2; exact hl2) hr
def lowP (p : Par) : Par := (lowB p.1, p.2)
theorem parsT_next (l : List Par) : Nxt8 (parsT l) := by
  cases l with
  | nil => exact .inl rfl
  | cons p l => exact .inr ⟨_, by simp [parsT, onePar]; rfl⟩
theorem pars_back : ∀ (l : List Par), (∀ p ∈ l, parGood p = true) → ∀ (x : ByteArray) (f : Nat), x.data.toList = parsT l → x.size < f → parsL f x = some (l.map lowP)
  | [], _, x, f, hx, hf => by
    have h0 : x.size = 0 := by rw [ba_size, hx]; rfl
    exact parsL_end h0 f hf
  | p :: l, hg, x, f, hx, hf => by
    have hp := hg p (by simp)
    simp only [parGood, Bool.and_eq_true] at hp
    have hx' : x.data.toList = onePar p ++ parsT l := by rw [hx]; simp [parsT]
    obtain ⟨h1, h2, h3, h4⟩ := one_back hp.1 hp.2 (parsT_next l) hx'
    have hne : x.size ≠ 0 := by rw [ba_size, hx']; simp [onePar]
    rw [parsL_step hne h1 f hf, pars_back l (fun q hq => hg q (by simp [hq])) _ f h4 (by rw [fromB_size]; omega), h2, h3]
    rfl
theorem prm_back {nm : ByteArray} {l : List Par} (h : prtOk nm l = true) : prmAll (prtS nm l) = (0, lowB nm, l.map lowP) := by
  have h0 := h
  simp only [prtOk, Bool.and_eq_true, List.all_eq_true] at h
  obtain ⟨h1, h2⟩ := h
  obtain ⟨hne, hall⟩ := tok_all h1
  have hl : (prtS nm l).data.toList = nm.data.toList ++ parsT l := by unfold prtS; rw [h0]; simp
  have hp : preN tcharB (prtS nm l) = nm.data.toList.length := preN_split hl hall (parsT_next l).tch
  have hpos : 0 < nm.data.toList.length := List.length_pos_iff.2 hne
  have hz : (prtS nm l).size ≠ 0 := by rw [ba_size, hl, List.length_append]; omega
  have hf : (fromB (prtS nm l) (preN tcharB (prtS nm l))).data.toList = parsT l := by rw [fromB_list, hp, hl]; simp
  unfold prmAll
  rw [if_neg hz, if_neg (by omega), pars_back l h2 _ _ hf (by rw [fromB_size]; omega)]
  simp only
  congr 2
  rw [hp]
  exact lowB_of (by rw [upB_list, hl]; simp)
/-! ### What was read can be written, and is read as the same -/
theorem low_tch : ∀ n, n < 256 → tcharB n = true → tcharB (lowN n) = true := by decide +kernel
theorem low_low8 : ∀ n, n < 256 → lowN (lowN n) = lowN n := by decide +kernel
theorem lowB_list (s : ByteArray) : (lowB s).data.toList = s.data.toList.map lowC := by simp [lowB, lowL]
theorem lowB_tok {s : ByteArray} (h : tokenB s = true) : tokenB (lowB s) = true := by
  obtain ⟨h1, h2⟩ := tok_all h
  refine tok_of (by rw [lowB_list]; simpa using h1) fun c hc => ?_
  rw [lowB_list, List.mem_map] at hc
  obtain ⟨d, hd, rfl⟩ := hc
  rw [lowC_toNat]
  exact low_tch _ d.toNat_lt (h2 d hd)
theorem lowB_twice (s : ByteArray) : lowB (lowB s) = lowB s := by
  apply ba_ext
  rw [lowB_list, lowB_list, List.map_map]
  apply List.map_congr_left
  intro c _
  apply UInt8.toNat_inj.1
  show (lowC (lowC c)).toNat = _
  rw [lowC_toNat, lowC_toNat, low_low8 _ c.toNat_lt]
theorem up_tok {x : ByteArray} {k : Nat} (h0 : 0 < k) (hk : k = preN tcharB x) : tokenB (upB x k) = true := by
  have hle := preN_le tcharB x
  refine tok_of (fun e => ?_) fun c hc => ?_
  · have := congrArg List.length e
    rw [upB_list, List.length_take, ← ba_size, List.length_nil] at this
    omega
  · rw [upB_list] at hc
    obtain ⟨j, hj, hj2, hcj⟩ := mem_take_bt hc
    rw [hcj]
    exact preN_in (by omega)
theorem qread_vals : ∀ (l acc : List UInt8) (n : Nat) (x : List UInt8 × Nat), qread l acc n = some x → (∀ c ∈ acc, valueB c.toNat = true) → ∀ c ∈ x.1, valueB c.toNat = true
  | [], _, _, _, h, _ => by simp [qread] at h
  | [c], acc, n, x, h, ha => by
    unfold qread at h
    split at h
    · cases h; exact ha
    · cases h
  | c :: d :: r, acc, n, x, h, ha => by
    unfold qread at h
    split at h
    · cases h; exact ha
    · split at h
      · split at h
        · rename_i hd
          exact qread_vals r _ _ x h (by intro e he; simp at he; rcases he with he | rfl; exact ha e he; exact hd)
        · cases h
      · split at h
        · rename_i hc
          exact qread_vals (d :: r) _ _ x h (by intro e he; simp at he; rcases he with he | rfl; exact ha e he; exact hc)
        · cases h
theorem quoted_ok (x : ByteArray) : quoteOk (quotedS x) = true := by
  unfold quoteOk
  rw [Bool.or_eq_true]
  right
  unfold quotedS
  cases h : quotedL x.data.toList with
  | none => rfl
  | some a =>
    obtain ⟨l, n⟩ := a
    simp only
    unfold allB
    rw [List.all_eq_true]
    simp only
    cases hl : x.data.toList with
    | nil => rw [hl] at h; simp [quotedL] at h
    | cons c r =>
      rw [hl] at h
      simp only [quotedL] at h
      split at h
      · exact qread_vals r [] 1 (l, n) h (by simp)
      · cases h
theorem tok_quote {s : ByteArray} (h : tokenB s = true) : quoteOk s = true := by unfold quoteOk; rw [h]; rfl
theorem par_good {x : ByteArray} (h : parOk x = true) : parGood (parName x, parVal x) = true ∧ lowB (parName x) = parName x := by
  simp only [parOk, Bool.and_eq_true, decide_eq_true_eq] at h
  obtain ⟨h1, h2, h3⟩ := h
  refine ⟨?_, lowB_twice _⟩
  simp only [parGood, Bool.and_eq_true]
  refine ⟨lowB_tok (up_tok h2 rfl), ?_⟩
  show quoteOk (parVal x) = true
  unfold parVal
  split
  · split
    · rename_i hv; exact tok_quote (up_tok hv rfl)
    · exact quoted_ok _
  · exact quo_emp rfl
theorem parsL_good : ∀ (f : Nat) (x : ByteArray) (l : List Par), parsL f x = some l → ∀ p ∈ l, parGood p = true ∧ lowB p.1 = p.1
  | 0, _, _, h => by simp [parsL] at h
  | f + 1, x, l, h => by
    unfold parsL at h
    split at h
    · cases h; simp
    · split at h
      · rename_i h1
        cases hq : parsL f (fromB x (parEnd x)) with
        | none => rw [hq] at h; simp at h
        | some m =>
          rw [hq] at h
          simp at h
          have ih := parsL_good f _ m hq
          intro p hp
          rw [← h] at hp
          simp at hp
          rcases hp with rfl | hp
          · exact par_good h1
          · exact ih p hp
      · cases h
/-- What any text is, if it is one: it can be written, and is read as the same. -/
theorem prm_again {s : ByteArray} (h : (prmAll s).1 = 0) : prtOk (prmAll s).2.1 (prmAll s).2.2 = true ∧ prmAll (prtS (prmAll s).2.1 (prmAll s).2.2) = (0, (prmAll s).2.1, (prmAll s).2.2) := by
  have key : ∃ nm l, prmAll s = (0, lowB nm, l) ∧ tokenB nm = true ∧ ∀ p ∈ l, parGood p = true ∧ lowB p.1 = p.1 := by
    unfold prmAll at h ⊢
    split at h
    · cases h
    · rename_i h0
      rw [if_neg h0]
      split at h
      · cases h
      · rename_i h1
        rw [if_neg h1]
        cases hq : parsL (s.size + 1) (fromB s (preN tcharB s)) with
        | none => rw [hq] at h; cases h
        | some l => exact ⟨_, l, rfl, up_tok (by omega) rfl, parsL_good _ _ l hq⟩
  obtain ⟨nm, l, e, ht, hg⟩ := key
  rw [e]
  have hok : prtOk (lowB nm) l = true := by
    simp only [prtOk, Bool.and_eq_true, List.all_eq_true]
    exact ⟨lowB_tok ht, fun p hp => (hg p hp).1⟩
  refine ⟨hok, ?_⟩
  rw [prm_back hok, lowB_twice]
  congr 2
  have : l.map lowP = l.map id := List.map_congr_left fun p hp => by
    show (lowB p.1, p.2) = p
    rw [(hg p hp).2]
  rw [this, List.map_id]
end Go.Proofs.Ytjocmjmfkgogiaa
