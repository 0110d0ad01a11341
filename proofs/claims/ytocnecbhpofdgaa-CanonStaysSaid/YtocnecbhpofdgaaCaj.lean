/- Heads in one form (layer 50): the groups and the names that come first, plain. -/
import Derived.Test.YtocnecbhpofdgaaCaf
namespace Go.Proofs.Ytocnecbhpofdgaa
open Go.RowKit
set_option linter.unusedVariables false
set_option linter.unusedSimpArgs false

instance memBA (x : ByteArray) (K : List ByteArray) : Decidable (x ∈ K) := decidable_of_iff (∃ k, k ∈ K ∧ k = x) ⟨fun ⟨k, h, e⟩ => e ▸ h, fun h => ⟨x, h, rfl⟩⟩
theorem flatMap_cg {α β : Type} {f g : α → List β} : ∀ {l : List α}, (∀ x ∈ l, f x = g x) → l.flatMap f = l.flatMap g
  | [], _ => rfl
  | x :: l, h => by rw [List.flatMap_cons, List.flatMap_cons, h x (List.mem_cons_self ..), flatMap_cg fun y hy => h y (List.mem_cons_of_mem _ hy)]
/-- The names, small, in the order in which each first comes. -/
def fstK (l : List Fld) : List ByteArray := l.foldl (fun K f => if lowB f.1 ∈ K then K else K ++ [lowB f.1]) []
theorem fstK_snoc (l : List Fld) (f : Fld) : fstK (l ++ [f]) = if lowB f.1 ∈ fstK l then fstK l else fstK l ++ [lowB f.1] := by
  unfold fstK
  rw [List.foldl_append]
  rfl
theorem snocI {P : List Fld → Prop} (h0 : P []) (hs : ∀ l f, P l → P (l ++ [f])) : ∀ l, P l := by
  intro l
  induction h : l.length generalizing l with
  | zero => rw [List.eq_nil_of_length_eq_zero h]; exact h0
  | succ n ih =>
    obtain ⟨l', f, rfl⟩ : ∃ l' f, l = l' ++ [f] := ⟨l.dropLast, l.getLast (fun e => by rw [e] at h; cases h), (List.dropLast_concat_getLast _).symm⟩
    exact hs l' f (ih l' (by simp at h; omega))
theorem fstK_mem (l : List Fld) : ∀ x, x ∈ fstK l ↔ ∃ g ∈ l, lowB g.1 = x := by
  refine snocI (P := fun l => ∀ x, x ∈ fstK l ↔ ∃ g ∈ l, lowB g.1 = x) (fun x => by simp [fstK]) (fun l f ih x => ?_) l
  rw [fstK_snoc]
  by_cases h : lowB f.1 ∈ fstK l
  · rw [if_pos h, ih x]
    constructor
    · rintro ⟨g, hg, e⟩
      exact ⟨g, List.mem_append_left _ hg, e⟩
    · rintro ⟨g, hg, e⟩
      rcases List.mem_append.1 hg with hg | hg
      · exact ⟨g, hg, e⟩
      · rw [List.mem_singleton] at hg
        subst hg
        exact (ih x).1 (by rw [← e]; exact h)
  · rw [if_neg h, List.mem_append, ih x]
    constructor
    · rintro (⟨g, hg, e⟩ | hx)
      · exact ⟨g, List.mem_append_left _ hg, e⟩
      · rw [List.mem_singleton] at hx
        exact ⟨f, List.mem_append_right _ (List.mem_singleton_self _), hx.symm⟩
    · rintro ⟨g, hg, e⟩
      rcases List.mem_append.1 hg with hg | hg
      · exact Or.inl ⟨g, hg, e⟩
      · rw [List.mem_singleton] at hg
        subst hg
        exact Or.inr (by rw [List.mem_singleton]; exact e.symm)
theorem fstK_nodup (l : List Fld) : (fstK l).Nodup := by
  refine snocI (P := fun l => (fstK l).Nodup) (by simp [fstK]) (fun l f ih => ?_) l
  rw [fstK_snoc]
  by_cases h : lowB f.1 ∈ fstK l
  · rw [if_pos h]; exact ih
  · rw [if_neg h, List.nodup_append]
    exact ⟨ih, by simp, fun a ha b hb e => h (by rw [List.mem_singleton] at hb; rw [← hb, ← e]; exact ha)⟩
/-- The fields of a name, small. -/
def ofK (l : List Fld) (x : ByteArray) : List Fld := l.filter fun g => decide (lowB g.1 = x)
theorem ofK_snoc (l : List Fld) (f : Fld) (x : ByteArray) : ofK (l ++ [f]) x = ofK l x ++ (if lowB f.1 = x then [f] else []) := by
  unfold ofK
  rw [List.filter_append]
  by_cases h : lowB f.1 = x <;> simp [h]
theorem gAll_fst (l : List Fld) : gAll l = (fstK l).map fun x => (x, ofK l x) := by
  refine snocI (P := fun l => gAll l = (fstK l).map fun x => (x, ofK l x)) (by simp [gAll, fstK]) (fun l f ih => ?_) l
  rw [gAll_snoc, fstK_snoc, ih]
  have hk : ∀ y, gIx ((fstK l).map fun x => (x, ofK l x)) y = (fstK l).findIdx? (fun k => decide (k = y)) := fun y => by
    unfold gIx
    rw [List.findIdx?_map]
    rfl
  unfold gPut
  rw [hk]
  cases hi : (fstK l).findIdx? (fun k => decide (k = lowB f.1)) with
  | some i =>
    obtain ⟨hil, hix, -⟩ := List.findIdx?_eq_some_iff_getElem.1 hi
    have hx : (fstK l)[i] = lowB f.1 := of_decide_eq_true hix
    have hm : lowB f.1 ∈ fstK l := by rw [← hx]; exact List.getElem_mem hil
    rw [if_pos hm]
    show gMod _ i f = _
    unfold gMod
    apply List.ext_getElem?
    intro j
    rw [List.getElem?_modify, List.getElem?_map, List.getElem?_map]
    by_cases hj : j < (fstK l).length
    · rw [List.getElem?_eq_getElem hj]
      simp only [Option.map_some]
      rw [ofK_snoc]
      by_cases hij : i = j
      · subst hij
        show some (if i = i then ((fstK l)[i], ofK l (fstK l)[i] ++ [f]) else ((fstK l)[i], ofK l (fstK l)[i])) = _
        rw [if_pos rfl, if_pos hx.symm]
      · show some (if i = j then ((fstK l)[j], ofK l (fstK l)[j] ++ [f]) else ((fstK l)[j], ofK l (fstK l)[j])) = _
        rw [if_neg hij, if_neg (fun e => hij ((List.getElem_inj (fstK_nodup l)).1 (hx.trans e))), List.append_nil]
    · rw [List.getElem?_eq_none (by omega)]
      rfl
  | none =>
    have hn : lowB f.1 ∉ fstK l := fun hm => by
      rw [List.findIdx?_eq_none_iff] at hi
      have := hi _ hm
      simp at this
    rw [if_neg hn]
    show gMod _ _ f = _
    unfold gMod
    apply List.ext_getElem?
    intro j
    rw [List.getElem?_modify, List.map_append, List.length_map]
    by_cases hj : j < (fstK l).length
    · rw [List.getElem?_append_left (by rw [List.length_map]; exact hj), List.getElem?_append_left (by rw [List.length_map]; exact hj), List.getElem?_map, List.getElem?_map, List.getElem?_eq_getElem hj]
      simp only [Option.map_some]
      have hij : ¬ (fstK l).length = j := by omega
      show some (if (fstK l).length = j then ((fstK l)[j], ofK l (fstK l)[j] ++ [f]) else ((fstK l)[j], ofK l (fstK l)[j])) = _
      rw [if_neg hij, ofK_snoc, if_neg (fun e => hn (by rw [e]; exact List.getElem_mem hj)), List.append_nil]
    · rw [List.getElem?_append_right (by rw [List.length_map]; omega), List.getElem?_append_right (by rw [List.length_map]; omega), List.length_map]
      by_cases hj2 : j = (fstK l).length
      · subst hj2
        have h0 : ofK l (lowB f.1) = [] := by
          unfold ofK
          rw [List.filter_eq_nil_iff]
          intro g hg e
          exact hn ((fstK_mem l _).2 ⟨g, hg, of_decide_eq_true e⟩)
        simp [ofK_snoc, h0]
      · rw [List.getElem?_eq_none (by simp; omega), List.getElem?_eq_none (by simp; omega)]
        rfl
/-- Single, by a small name. -/
def sgK (x : ByteArray) : Bool := x.toList == [115, 101, 116, 45, 99, 111, 111, 107, 105, 101] || x.toList == [119, 119, 119, 45, 97, 117, 116, 104, 101, 110, 116, 105, 99, 97, 116, 101] || x.toList == [112, 114, 111, 120, 121, 45, 97, 117, 116, 104, 101, 110, 116, 105, 99, 97, 116, 101]
theorem sgB_K (x : ByteArray) : sgB x = sgK (lowB x) := sgB_low x
theorem foldB_iff (a b : ByteArray) : foldB a b = decide (lowB a = lowB b) := by
  unfold foldB
  by_cases h : lowB a = lowB b
  · rw [h, decide_eq_true rfl]; exact beq_self_eq_true _
  · rw [ba_tlb h, decide_eq_false h]
theorem hAll_K (l : List Fld) (nm : ByteArray) : hAll l nm = (ofK l (lowB nm)).map (·.2) := by
  unfold hAll ofK
  congr 1
  apply List.filter_congr
  intro g _
  exact foldB_iff g.1 nm
/-- What stands for a name. -/
def hKey (l : List Fld) (x : ByteArray) : List Fld := (if sgK x then (ofK l x).map (·.2) else [hJoin ((ofK l x).map (·.2))]).map fun v => (nmL x, trimB v)
def rFld (l : List Fld) : List Fld := (fstK l).flatMap (hKey l)
theorem rFld_eq (l : List Fld) : rFld l = cFld l := by
  unfold rFld cFld fOut
  rw [gAll_fst, List.flatMap_map]
  refine flatMap_cg fun x hx => ?_
  obtain ⟨g0, hg0, e0⟩ := (fstK_mem l x).1 hx
  have hne : g0 ∈ ofK l x := List.mem_filter.2 ⟨hg0, decide_eq_true e0⟩
  have hall : ∀ g ∈ ofK l x, lowB g.1 = x := fun g hg => of_decide_eq_true (List.mem_filter.1 hg).2
  unfold hKey
  show _ = (fOne (ofK l x)).map nmT
  generalize ofK l x = L at *
  cases L with
  | nil => cases hne
  | cons f r =>
    have hf := hall f (List.mem_cons_self ..)
    show _ = (if sgB f.1 then f :: r else [(f.1, hJoin (hAll (f :: r) f.1))]).map nmT
    rw [sgB_K, hf]
    cases hs : sgK x
    · rw [if_neg (by decide), if_neg (by decide)]
      show [(nmL x, trimB (hJoin ((f :: r).map (·.2))))] = [(nameB f.1, trimB (hJoin (hAll (f :: r) f.1)))]
      have e1 : hAll (f :: r) f.1 = (f :: r).map (·.2) := by
        rw [hAll_K]
        congr 1
        unfold ofK
        rw [List.filter_eq_self]
        intro g hg
        exact decide_eq_true ((hall g hg).trans hf.symm)
      have e2 : nameB f.1 = nmL x := by show nmL (lowB f.1) = _; rw [hf]
      rw [e1, e2]
    · rw [if_pos rfl, if_pos rfl, List.map_map]
      refine List.map_congr_left fun g hg => ?_
      show (nmL x, trimB g.2) = (nmL (lowB g.1), trimB g.2)
      rw [hall g hg]
end Go.Proofs.Ytocnecbhpofdgaa
