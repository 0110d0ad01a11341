/- Fields in one form (layer 50), plain: what is in one form stays; neighbours that change places; a field twice, or once with both values. -/
import Derived.Test.YtocnecbhpofdgaaCbe
namespace Go.Proofs.Ytocnecbhpofdgaa
open Go.RowKit Go.Shelf Go.Lib Go.Sort
set_option linter.unusedVariables false
set_option linter.unusedSimpArgs false

theorem trimB_twiceC (s : ByteArray) : trimB (trimB s) = trimB s := by
  show (⟨(trimL (trimB s).data.toList).toArray⟩ : ByteArray) = _
  have e : (trimB s).data.toList = trimL s.data.toList := by simp [trimB]
  rw [e, trimL_trimL]
  rfl
theorem hJoin_oneC (s : ByteArray) : hJoin [s] = s := by
  apply ba_ext
  show (Lib.join [s.data.toList] [44, 32]).toArray.toList = _
  rw [join_cons]
  simp [joinTail]
theorem join_mid (sep a v : List UInt8) (Y : List (List UInt8)) : ∀ X : List (List UInt8), join (X ++ a :: v :: Y) sep = join (X ++ (a ++ sep ++ v) :: Y) sep := by
  have key : ∀ X : List (List UInt8), joinTail sep (X ++ a :: v :: Y) = joinTail sep (X ++ (a ++ sep ++ v) :: Y) := by
    intro X
    simp [joinTail]
  intro X
  cases X with
  | nil =>
    rw [List.nil_append, List.nil_append, join_cons, join_cons]
    simp [joinTail]
  | cons x X => rw [List.cons_append, List.cons_append, join_cons, join_cons, key]
/-- Nothing where there is none, and else what stands for the name. -/
def hKE (E : List Fld) (x : ByteArray) : List Fld := if E = [] then [] else (if sgK x then E.map (·.2) else [hJoin (E.map (·.2))]).map fun v => (nmL x, trimB v)
theorem ofK_mem {l : List Fld} {x : ByteArray} : ofK l x ≠ [] ↔ x ∈ fstK l := by
  rw [fstK_mem]
  constructor
  · intro h
    obtain ⟨g, hg⟩ := List.exists_mem_of_ne_nil _ h
    exact ⟨g, (List.mem_filter.1 hg).1, of_decide_eq_true (List.mem_filter.1 hg).2⟩
  · rintro ⟨g, hg, e⟩ h
    have : g ∈ ofK l x := List.mem_filter.2 ⟨hg, decide_eq_true e⟩
    rw [h] at this
    cases this
theorem hKE_in {l : List Fld} {x : ByteArray} (h : x ∈ fstK l) : hKey l x = hKE (ofK l x) x := by
  unfold hKE
  rw [if_neg (ofK_mem.2 h)]
  rfl
theorem hKE_ne {E : List Fld} {x : ByteArray} (h : E ≠ []) : hKE E x ≠ [] := by
  unfold hKE
  rw [if_neg h]
  intro e
  rw [List.map_eq_nil_iff] at e
  split at e
  · exact h (List.map_eq_nil_iff.1 e)
  · cases e
theorem hKE_nm {E : List Fld} {x : ByteArray} : ∀ p ∈ hKE E x, p.1 = nmL x := by
  intro p hp
  unfold hKE at hp
  split at hp
  · cases hp
  · obtain ⟨v, -, rfl⟩ := List.mem_map.1 hp
    rfl
theorem cFld_E (l : List Fld) : cFld l = (fstK l).flatMap fun x => hKE (ofK l x) x := by
  rw [← rFld_eq]
  exact flatMap_cg fun x hx => hKE_in hx
theorem fstK_low {l : List Fld} {x : ByteArray} (h : x ∈ fstK l) : lowB x = x := by
  obtain ⟨g, -, rfl⟩ := (fstK_mem l x).1 h
  exact lowB_lowB _
theorem fstK_same : ∀ (M l : List Fld), (∀ p ∈ M, lowB p.1 ∈ fstK l) → fstK (l ++ M) = fstK l
  | [], l, _ => by rw [List.append_nil]
  | p :: M, l, h => by
    have h1 : fstK (l ++ [p]) = fstK l := by rw [fstK_snoc, if_pos (h p (by simp))]
    have := fstK_same M (l ++ [p]) (fun q hq => by rw [h1]; exact h q (List.mem_cons_of_mem _ hq))
    rw [List.append_assoc, List.singleton_append] at this
    rw [this, h1]
theorem fstK_new {M l : List Fld} {x : ByteArray} (hM : ∀ p ∈ M, lowB p.1 = x) (hn : M ≠ []) (hx : x ∉ fstK l) : fstK (l ++ M) = fstK l ++ [x] := by
  cases M with
  | nil => exact (hn rfl).elim
  | cons p M =>
    have hp := hM p (by simp)
    have h1 : fstK (l ++ [p]) = fstK l ++ [x] := by rw [fstK_snoc, hp, if_neg hx]
    have := fstK_same M (l ++ [p]) (fun q hq => by rw [h1, hM q (List.mem_cons_of_mem _ hq)]; simp)
    rw [List.append_assoc, List.singleton_append] at this
    rw [this, h1]
/-- Names one behind the other, each with its fields. -/
theorem fstK_flat (f : ByteArray → List Fld) : ∀ (n : Nat) (K : List ByteArray), K.length = n → K.Nodup → (∀ x ∈ K, f x ≠ [] ∧ ∀ p ∈ f x, lowB p.1 = x) → fstK (K.flatMap f) = K := by
  intro n
  induction n with
  | zero => intro K hK _ _; rw [List.eq_nil_of_length_eq_zero hK]; rfl
  | succ n ih =>
    intro K hK hn hf
    obtain ⟨K', x, rfl⟩ : ∃ K' x, K = K' ++ [x] := ⟨K.dropLast, K.getLast (fun e => by rw [e] at hK; cases hK), (List.dropLast_concat_getLast _).symm⟩
    rw [List.nodup_append] at hn
    have h1 := ih K' (by simp at hK; omega) hn.1 (fun y hy => hf y (List.mem_append_left _ hy))
    rw [List.flatMap_append, List.flatMap_cons, List.flatMap_nil, List.append_nil]
    have hx := hf x (by simp)
    rw [fstK_new hx.2 hx.1 (by rw [h1]; exact fun hm => hn.2.2 x hm x (by simp) rfl), h1]
theorem ofK_append (l m : List Fld) (x : ByteArray) : ofK (l ++ m) x = ofK l x ++ ofK m x := by unfold ofK; rw [List.filter_append]
theorem ofK_cons (p : Fld) (l : List Fld) (x : ByteArray) : ofK (p :: l) x = if lowB p.1 = x then p :: ofK l x else ofK l x := by
  unfold ofK
  rw [List.filter_cons]
  by_cases h : lowB p.1 = x <;> simp [h]
theorem ofK_none {l : List Fld} {x : ByteArray} (h : ∀ p ∈ l, lowB p.1 ≠ x) : ofK l x = [] := by
  unfold ofK
  rw [List.filter_eq_nil_iff]
  intro p hp
  simpa using h p hp
theorem ofK_all {l : List Fld} {x : ByteArray} (h : ∀ p ∈ l, lowB p.1 = x) : ofK l x = l := by
  unfold ofK
  rw [List.filter_eq_self]
  intro p hp
  simpa using h p hp
theorem ofK_flat (f : ByteArray → List Fld) (x : ByteArray) : ∀ (K : List ByteArray), K.Nodup → x ∈ K → (∀ y ∈ K, ∀ p ∈ f y, lowB p.1 = y) → ofK (K.flatMap f) x = f x
  | [], _, h, _ => by cases h
  | y :: K, hn, h, hf => by
    rw [List.nodup_cons] at hn
    rw [List.flatMap_cons, ofK_append]
    by_cases e : y = x
    · subst e
      rw [ofK_all (hf y (by simp)), ofK_none (fun p hp e => ?_), List.append_nil]
      obtain ⟨z, hz, hp⟩ := List.mem_flatMap.1 hp
      have := hf z (List.mem_cons_of_mem _ hz) p hp
      rw [e] at this
      exact hn.1 (this ▸ hz)
    · rw [ofK_none (fun p hp e2 => e ((hf y (by simp) p hp).symm.trans e2)), List.nil_append]
      exact ofK_flat f x K hn.2 ((List.mem_cons.1 h).resolve_left fun e2 => e e2.symm) fun z hz => hf z (List.mem_cons_of_mem _ hz)
theorem hKE_twice (E : List Fld) (x : ByteArray) : hKE (hKE E x) x = hKE E x := by
  by_cases h : E = []
  · subst h; rfl
  · have h2 := hKE_ne (x := x) h
    have e : hKE E x = (if sgK x then E.map (·.2) else [hJoin (E.map (·.2))]).map fun v => (nmL x, trimB v) := by unfold hKE; rw [if_neg h]
    rw [hKE, if_neg h2, e]
    cases sgK x
    · rw [if_neg (by decide), if_neg (by decide)]
      simp only [List.map_cons, List.map_nil]
      rw [hJoin_oneC, trimB_twiceC]
    · rw [if_pos rfl, if_pos rfl, List.map_map, List.map_map, List.map_map, List.map_map]
      refine List.map_congr_left fun g _ => ?_
      show (nmL x, trimB (trimB g.2)) = (nmL x, trimB g.2)
      rw [trimB_twiceC]
/-- What is in one form stays. -/
theorem cFld_cFld (l : List Fld) : cFld (cFld l) = cFld l := by
  have hf : ∀ x ∈ fstK l, hKE (ofK l x) x ≠ [] ∧ ∀ p ∈ hKE (ofK l x) x, lowB p.1 = x := fun x hx =>
    ⟨hKE_ne (ofK_mem.2 hx), fun p hp => by rw [hKE_nm p hp]; exact low_nmL (fstK_low hx)⟩
  have e1 : fstK (cFld l) = fstK l := by
    rw [cFld_E l]
    exact fstK_flat (fun x => hKE (ofK l x) x) _ _ rfl (fstK_nodup l) hf
  rw [cFld_E (cFld l), e1, cFld_E l]
  refine flatMap_cg fun x hx => ?_
  rw [ofK_flat (fun x => hKE (ofK l x) x) x _ (fstK_nodup l) hx fun y hy => (hf y hy).2, hKE_twice]
theorem kF_low {l : List Fld} {k : ByteArray} (h : ∀ p ∈ l, p.1 ≠ k) : kF k l = [] := by
  unfold kF
  rw [List.filter_eq_nil_iff]
  intro p hp
  simpa using h p hp
theorem kF_flat (k : ByteArray) (f : ByteArray → List Fld) : ∀ K : List ByteArray, kF k (K.flatMap f) = K.flatMap fun x => kF k (f x)
  | [] => rfl
  | x :: K => by rw [List.flatMap_cons, List.flatMap_cons, kF_append, kF_flat k f K]
theorem flat_one {f : ByteArray → List Fld} {x : ByteArray} : ∀ {K : List ByteArray}, K.Nodup → x ∈ K → (∀ y ∈ K, y ≠ x → f y = []) → K.flatMap f = f x
  | [], _, h, _ => by cases h
  | y :: K, hn, h, hf => by
    rw [List.nodup_cons] at hn
    rw [List.flatMap_cons]
    by_cases e : y = x
    · subst e
      have : K.flatMap f = [] := by
        rw [List.flatMap_eq_nil_iff]
        exact fun z hz => hf z (List.mem_cons_of_mem _ hz) fun e => hn.1 (e ▸ hz)
      rw [this, List.append_nil]
    · rw [hf y (by simp) e, List.nil_append]
      exact flat_one hn.2 ((List.mem_cons.1 h).resolve_left fun e2 => e e2.symm) fun z hz => hf z (List.mem_cons_of_mem _ hz)
/-- The fields of a name, in one form, hang on what stands for it alone. -/
theorem kF_cFld (k : ByteArray) (l : List Fld) : kF k (cFld l) = if nmL (lowB k) = k then hKE (ofK l (lowB k)) (lowB k) else [] := by
  rw [cFld_E, kF_flat]
  have hnone : ∀ y ∈ fstK l, ¬ (y = lowB k ∧ nmL (lowB k) = k) → kF k (hKE (ofK l y) y) = [] := fun y hy hn => by
    refine kF_low fun p hp e => hn ?_
    rw [hKE_nm p hp] at e
    have : y = lowB k := by rw [← e, low_nmL (fstK_low hy)]
    exact ⟨this, this ▸ e⟩
  by_cases h : nmL (lowB k) = k
  · rw [if_pos h]
    by_cases hm : lowB k ∈ fstK l
    · rw [flat_one (fstK_nodup l) hm fun y hy hne => hnone y hy fun hh => hne hh.1]
      unfold kF
      rw [List.filter_eq_self]
      intro p hp
      rw [hKE_nm p hp, h]
      exact decide_eq_true rfl
    · have : ofK l (lowB k) = [] := Classical.byContradiction fun hc => hm (ofK_mem.1 hc)
      rw [this]
      show _ = []
      rw [List.flatMap_eq_nil_iff]
      exact fun y hy => hnone y hy fun hh => hm (hh.1 ▸ hy)
  · rw [if_neg h, List.flatMap_eq_nil_iff]
    exact fun y hy => hnone y hy fun hh => h hh.2
theorem cSr_of {l m : List Fld} (h : ∀ x, hKE (ofK l x) x = hKE (ofK m x) x) : cSr l = cSr m := by
  unfold cSr
  refine srt_by (isrt_srt swoF _) (isrt_srt swoF _) fun k => ?_
  rw [kF_isrt, kF_isrt, kF_cFld, kF_cFld, h]
theorem cSr_cFld (l : List Fld) : cSr (cFld l) = cSr l := by unfold cSr; rw [cFld_cFld]
/-- Neighbours of unlike names change places. -/
theorem cSr_turn (P R : List Fld) (a b : Fld) (h : lowB a.1 ≠ lowB b.1) : cSr (P ++ a :: b :: R) = cSr (P ++ b :: a :: R) := by
  refine cSr_of fun x => ?_
  congr 1
  rw [ofK_append, ofK_append, ofK_cons, ofK_cons, ofK_cons, ofK_cons]
  by_cases h1 : lowB a.1 = x
  · have h2 : ¬ lowB b.1 = x := fun e => h (h1.trans e.symm)
    simp only [if_pos h1, if_neg h2]
  · simp only [if_neg h1]
/-- A field twice, or once with both values. -/
theorem cSr_both (P R : List Fld) (n a v av : ByteArray) (hs : sgB n = false) (hav : av.data.toList = a.data.toList ++ [44, 32] ++ v.data.toList) : cSr (P ++ (n, av) :: R) = cSr (P ++ (n, a) :: (n, v) :: R) := by
  refine cSr_of fun x => ?_
  rw [ofK_append, ofK_append, ofK_cons, ofK_cons, ofK_cons]
  by_cases h1 : lowB n = x
  · simp only [if_pos h1]
    have hx : sgK x = false := by rw [← h1, ← sgB_K]; exact hs
    unfold hKE
    rw [if_neg (show ¬ ofK P x ++ (n, av) :: ofK R x = [] by simp), if_neg (show ¬ ofK P x ++ (n, a) :: (n, v) :: ofK R x = [] by simp), hx]
    simp only [Bool.false_eq_true, if_false]
    have : hJoin ((ofK P x ++ (n, av) :: ofK R x).map (·.2)) = hJoin ((ofK P x ++ (n, a) :: (n, v) :: ofK R x).map (·.2)) := by
      apply ba_ext
      show (Lib.join _ [44, 32]).toArray.toList = (Lib.join _ [44, 32]).toArray.toList
      simp only [List.map_append, List.map_cons, hav]
      rw [join_mid]
    rw [this]
  · simp only [if_neg h1]
end Go.Proofs.Ytocnecbhpofdgaa
