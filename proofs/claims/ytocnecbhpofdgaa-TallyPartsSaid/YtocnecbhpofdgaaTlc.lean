/- Tally (layer 49): slices.SortFunc of an own row of rows (bin/mktlc.py). -/
import Derived.Test.YtocnecbhpofdgaaTla
import Derived.Shelf.SlSortCmp.NoneTotal
namespace Go.Proofs.Ytocnecbhpofdgaa
open Go.RowKit Go.Shelf Go.Lib Go.Sort
set_option linter.unusedVariables false
set_option linter.unusedSimpArgs false

theorem own_lenT {w : World} {B : Nat} {e : TypeId} {sz n : Nat} {v : Value} {xs : List Value} (h : w.ownsRow B e sz v n xs) : ∃ a c, v = .slice a n c := by
  rcases h.2 with ⟨rfl, rfl⟩ | ⟨g, cap, cur, rfl, _⟩
  · exact ⟨_, _, rfl⟩
  · exact ⟨_, _, rfl⟩
theorem own_formT {w : World} {B : Nat} {e : TypeId} {sz n c : Nat} {a : Option Addr} {xs : List Value} (h : w.ownsRow B e sz (.slice a n c) n xs) (hn : 0 < n) : ∃ g, a = some ⟨g, 0, none⟩ := by
  rcases h.2 with ⟨h2, h0⟩ | ⟨g, cap, cur, h2, _⟩
  · omega
  · cases h2
    exact ⟨g, rfl⟩
theorem flatK_listT {α : Type} [Inhabited α] (enc : α → List Value) (hk : ∀ x, (enc x).length = 2) (d : Array α) : (flatK enc 2 d).toList = d.toList.flatMap enc := by
  refine List.ext_getElem? fun t => ?_
  have hl : (d.toList.flatMap enc).length = d.size * 2 := by rw [flat_len (sz := 2) hk, Array.length_toList]
  by_cases ht : t < d.size * 2
  · have hj : t / 2 < d.toList.length := by rw [Array.length_toList]; omega
    have h1 := flat_at (f := enc) (sz := 2) hk d.toList (t / 2) hj (t % 2) (by omega)
    rw [show t / 2 * 2 + t % 2 = t by omega] at h1
    have h0 : (flatK enc 2 d)[t]? = some ((flatK enc 2 d)[t]'(by rw [size_flatK]; exact ht)) := Array.getElem?_eq_getElem (by rw [size_flatK]; exact ht)
    have hd : d.toList[t / 2] = d[t / 2]! := by rw [getElem!_pos d (t / 2) (by omega), Array.getElem_toList]
    rw [h1, Array.getElem?_toList, h0, hd]
    have h2 := get_flatK enc 2 d t ht
    rw [getElem!_pos (flatK enc 2 d) t (by rw [size_flatK]; exact ht)] at h2
    have h3 : t % 2 < (enc d[t / 2]!).length := by rw [hk]; omega
    rw [h2, getElem!_pos (enc d[t / 2]!) (t % 2) h3, List.getElem?_eq_getElem h3]
  · rw [List.getElem?_eq_none (l := (flatK enc 2 d).toList) (by rw [Array.length_toList, size_flatK]; omega), List.getElem?_eq_none (by rw [hl]; omega)]
theorem sort_heapT {α : Type} [Inhabited α] (enc : α → List Value) (w : World) (g n : Nat) (d : Array α) (os : Array Obj) : (sortWorldK enc 2 w g 0 n d os).heap = w.heap.modify g (onCells (putCells id 0 (flatK enc 2 d))) ++ os := rfl
theorem sort_belT {α : Type} [Inhabited α] {enc : α → List Value} {w : World} {B g n : Nat} {d : Array α} {os : Array Obj} (hB : B ≤ g) (hg : g < w.heap.size) : Below B w (sortWorldK enc 2 w g 0 n d os) := by
  refine ⟨rfl, rfl, rfl, ?_, fun k hk => ?_⟩
  · rw [sort_heapT, Array.size_append, Array.size_modify]; omega
  · rw [sort_heapT]
    rw [Array.getElem?_append_left (by rw [Array.size_modify]; omega), Array.getElem?_modify, if_neg (by omega)]
theorem own_holdsT {α : Type} [Inhabited α] (enc : α → List Value) (hk : ∀ x, (enc x).length = 2) {w : World} {B g cap : Nat} {e : TypeId} {d : Array α} (h : w.ownsRow B e 2 (.slice (some ⟨g, 0, none⟩) d.size cap) d.size (d.toList.flatMap enc)) : HoldsK enc 2 w g 0 d := by
  intro j hj
  rw [size_flatK] at hj
  rcases h.2 with ⟨h2, _⟩ | ⟨g', cap', cur, h2, h3, hg, h4, h5, h6, h7⟩
  · cases h2
  · cases h2
    have e1 := congrArg (fun l => l[j]?) h7
    rw [← flatK_listT enc hk] at e1
    simp only [List.getElem?_take, Array.getElem?_toList] at e1
    have e2 : (flatK enc 2 d)[j]? = some ((flatK enc 2 d)[j]'(by rw [size_flatK]; exact hj)) := Array.getElem?_eq_getElem (by rw [size_flatK]; exact hj)
    rw [if_pos hj, e2] at e1
    refine ⟨?_, blk_free hg⟩
    rw [Nat.zero_add, getElem!_pos (flatK enc 2 d) j (by rw [size_flatK]; exact hj)]
    exact blk_cell hg e1
theorem holds_ownT {α : Type} [Inhabited α] (enc : α → List Value) (hk : ∀ x, (enc x).length = 2) {w : World} {B g cap n : Nat} {e : TypeId} {d d' : Array α} {os : Array Obj} (h : w.ownsRow B e 2 (.slice (some ⟨g, 0, none⟩) d.size cap) d.size (d.toList.flatMap enc)) (hs : d'.size = d.size) :
    (sortWorldK enc 2 w g 0 n d' os).ownsRow B e 2 (.slice (some ⟨g, 0, none⟩) d.size cap) d.size (d'.toList.flatMap enc) := by
  refine ⟨by rw [flat_len (sz := 2) hk, Array.length_toList, hs], ?_⟩
  rcases h.2 with ⟨h2, _⟩ | ⟨g', cap', cur, h2, h3, hg, h4, h5, h6, h7⟩
  · cases h2
  · cases h2
    refine .inr ⟨g, cap, putCells id 0 (flatK enc 2 d') cur, rfl, h3, ?_, h4, h5, by unfold putCells; rw [Array.size_mapIdx]; exact h6, ?_⟩
    · rw [sort_heapT, Array.getElem?_append_left (by rw [Array.size_modify]; exact blk_lt hg), Array.getElem?_modify, if_pos rfl, hg]
      rfl
    · rw [← flatK_listT enc hk]
      refine List.ext_getElem? fun j => ?_
      simp only [List.getElem?_take, Array.getElem?_toList]
      by_cases hj : j < d.size * 2
      · have hcs : d.size * 2 ≤ cur.size := by rw [h6]; exact Nat.mul_le_mul_right _ h4
        have e2 : (flatK enc 2 d')[j]? = some ((flatK enc 2 d')[j]'(by rw [size_flatK]; omega)) := Array.getElem?_eq_getElem (by rw [size_flatK]; omega)
        have e3 : cur[j]? = some (cur[j]'(by omega)) := Array.getElem?_eq_getElem (by omega)
        rw [if_pos hj, e2]
        unfold putCells
        rw [Array.getElem?_mapIdx, e3]
        simp [size_flatK, hs, hj]
      · have e2 : (flatK enc 2 d')[j]? = none := Array.getElem?_eq_none (by rw [size_flatK]; omega)
        rw [if_neg hj, e2]
theorem perm_ofT {α : Type} [Inhabited α] {l : List α} {d' : Array α} (h : PermIn 0 l.length l.toArray d') : d'.toList.Perm l := by
  have h2 := h.2.2
  have hz : d'.size = l.length := h.1.trans List.size_toArray
  simp only [Array.toList_extract, List.extract_eq_take_drop, Nat.sub_zero, List.drop_zero] at h2
  rw [List.take_of_length_le (by rw [Array.length_toList, hz]; exact Nat.le_refl _), List.take_of_length_le (by simp)] at h2
  exact h2
theorem sorted_ofT {α : Type} [Inhabited α] {lt : α → α → Bool} {d : Array α} (h : SortedIn lt 0 d.size d) : d.toList.Pairwise (fun x y => lt y x = false) := by
  rw [List.pairwise_iff_getElem]
  intro i j hi hj hij
  have hj2 : j < d.size := by simpa using hj
  have := h i j (Nat.zero_le _) hij hj2
  rw [getElem!_pos d j hj2, getElem!_pos d i (by omega)] at this
  simpa using this
theorem Rssorts (B n : Nat) (v : Value) (l : List Rs) (w : World) (e : TypeId) (h : w.ownsRow B e 2 v n (l.flatMap RsE)) (hl : l.length = n) (hn : n ≤ 100000) :
    Calls Try.prog 85 #[v, .func (.func 86) #[] #[]] w fun x w' => x = .returned (.tuple #[]) ∧ ∃ l' : List Rs, l'.Perm l ∧ l'.Pairwise (fun x y => ltOf RsC y x = false) ∧ w'.ownsRow B e 2 v n (l'.flatMap RsE) ∧ Below B w w' := by
  subst hl
  obtain ⟨a, c, rfl⟩ := own_lenT h
  rcases Nat.eq_zero_or_pos l.length with h0 | h0
  · have e0 := List.eq_nil_of_length_eq_zero h0
    subst e0
    refine (AnyF.slices_SortFunc_none Ytocnecbhpofdgaa.layRs a c _ w).mono ?_
    rintro e w' ⟨rfl, rfl⟩
    exact ⟨rfl, [], List.Perm.refl _, List.Pairwise.nil, h, ⟨rfl, rfl, rfl, Nat.le_refl _, fun _ _ => rfl⟩⟩
  · obtain ⟨g, rfl⟩ := own_formT h h0
    have hd : l.toArray.size = l.length := List.size_toArray
    have hg := h.lt g rfl
    have h2 : w.ownsRow B e 2 (.slice (some ⟨g, 0, none⟩) l.toArray.size c) l.toArray.size (l.toArray.toList.flatMap RsE) := by rw [hd]; exact h
    have hs := Rssrt g c l.toArray w (own_holdsT RsE RsE_len h2) hg.2 (by rw [hd]; omega)
    rw [hd] at hs
    refine hs.mono ?_
    rintro x w' ⟨rfl, d', q, os, hp, ho, rfl⟩
    have hz : d'.size = l.length := hp.1.trans hd
    refine ⟨rfl, d'.toList, perm_ofT hp, sorted_ofT (by rw [hz]; exact ho), ?_, sort_belT hg.1 hg.2⟩
    have := holds_ownT (n := q) (os := os) RsE RsE_len h2 (d' := d') hp.1
    rw [hd] at this
    exact this
theorem Risorts (B n : Nat) (v : Value) (l : List Ri) (w : World) (e : TypeId) (h : w.ownsRow B e 2 v n (l.flatMap RiE)) (hl : l.length = n) (hn : n ≤ 100000) :
    Calls Try.prog 66 #[v, .func (.func 67) #[] #[]] w fun x w' => x = .returned (.tuple #[]) ∧ ∃ l' : List Ri, l'.Perm l ∧ l'.Pairwise (fun x y => ltOf RiC y x = false) ∧ w'.ownsRow B e 2 v n (l'.flatMap RiE) ∧ Below B w w' := by
  subst hl
  obtain ⟨a, c, rfl⟩ := own_lenT h
  rcases Nat.eq_zero_or_pos l.length with h0 | h0
  · have e0 := List.eq_nil_of_length_eq_zero h0
    subst e0
    refine (AnyF.slices_SortFunc_none Ytocnecbhpofdgaa.layRi a c _ w).mono ?_
    rintro e w' ⟨rfl, rfl⟩
    exact ⟨rfl, [], List.Perm.refl _, List.Pairwise.nil, h, ⟨rfl, rfl, rfl, Nat.le_refl _, fun _ _ => rfl⟩⟩
  · obtain ⟨g, rfl⟩ := own_formT h h0
    have hd : l.toArray.size = l.length := List.size_toArray
    have hg := h.lt g rfl
    have h2 : w.ownsRow B e 2 (.slice (some ⟨g, 0, none⟩) l.toArray.size c) l.toArray.size (l.toArray.toList.flatMap RiE) := by rw [hd]; exact h
    have hs := Risrt g c l.toArray w (own_holdsT RiE RiE_len h2) hg.2 (by rw [hd]; omega)
    rw [hd] at hs
    refine hs.mono ?_
    rintro x w' ⟨rfl, d', q, os, hp, ho, rfl⟩
    have hz : d'.size = l.length := hp.1.trans hd
    refine ⟨rfl, d'.toList, perm_ofT hp, sorted_ofT (by rw [hz]; exact ho), ?_, sort_belT hg.1 hg.2⟩
    have := holds_ownT (n := q) (os := os) RiE RiE_len h2 (d' := d') hp.1
    rw [hd] at this
    exact this
end Go.Proofs.Ytocnecbhpofdgaa
