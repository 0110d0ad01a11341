/- Heads in one form (layer 50): what comes of the groups; what grows beside a row that is read. -/
import Derived.Test.YtocnecbhpofdgaaCac
import Derived.Test.YtocnecbhpofdgaaCad
import Derived.Test.YtocnecbhpofdgaaHdf
namespace Go.Proofs.Ytocnecbhpofdgaa
open Go.RowKit
set_option linter.unusedVariables false
set_option linter.unusedSimpArgs false

def nmT (f : Fld) : Fld := (nameB f.1, trimB f.2)
/-- A group's fields, put together where they may. -/
def fOne (L : List Fld) : List Fld := match L with
  | [] => []
  | f :: _ => if sgB f.1 then L else [(f.1, hJoin (hAll L f.1))]
def fOut (G : List Grp) : List Fld := G.flatMap fun p => (fOne p.2).map nmT
def cFld (l : List Fld) : List Fld := fOut (gAll l)
theorem fOut_take {G : List Grp} {k : Nat} (h : k < G.length) : fOut (G.take (k + 1)) = fOut (G.take k) ++ (fOne G[k].2).map nmT := by
  unfold fOut
  rw [List.take_succ_eq_append_getElem h, List.flatMap_append]
  simp
theorem fOne_len (L : List Fld) : (fOne L).length ≤ L.length := by
  cases L with
  | nil => exact Nat.le_refl _
  | cons f r =>
    show (if sgB f.1 then f :: r else [(f.1, hJoin (hAll (f :: r) f.1))]).length ≤ (f :: r).length
    split <;> simp
theorem fOut_len {n : Nat} : ∀ {G : List Grp}, (∀ p ∈ G, p.2.length ≤ n) → (fOut G).length ≤ G.length * n
  | [], _ => Nat.zero_le _
  | p :: G, h => by
    have h1 := fOut_len (G := G) fun q hq => h q (List.mem_cons_of_mem _ hq)
    have h2 := h p (List.mem_cons_self ..)
    have h3 := fOne_len p.2
    have e : fOut (p :: G) = (fOne p.2).map nmT ++ fOut G := by unfold fOut; rw [List.flatMap_cons]
    rw [e, List.length_append, List.length_map, List.length_cons, Nat.succ_mul]
    omega
theorem gMod_in {G : List Grp} {i : Nat} {f : Fld} {p : Grp} (hp : p ∈ gMod G i f) : p ∈ G ∨ ∃ q ∈ G, p = (q.1, q.2 ++ [f]) := by
  obtain ⟨j, hj⟩ := List.mem_iff_getElem?.1 hp
  unfold gMod at hj
  rw [List.getElem?_modify] at hj
  obtain ⟨q, hq, rfl⟩ := Option.map_eq_some_iff.1 hj
  split
  · exact Or.inr ⟨q, List.mem_of_getElem? hq, rfl⟩
  · exact Or.inl (List.mem_of_getElem? hq)
theorem gMod_new {G : List Grp} {x : ByteArray} {f : Fld} {p : Grp} (hp : p ∈ gMod (G ++ [(x, [])]) G.length f) : p ∈ G ∨ p = (x, [f]) := by
  obtain ⟨j, hj⟩ := List.mem_iff_getElem?.1 hp
  unfold gMod at hj
  rw [List.getElem?_modify] at hj
  obtain ⟨q, hq, e⟩ := Option.map_eq_some_iff.1 hj
  by_cases hjl : j < G.length
  · rw [if_neg (by omega)] at e
    rw [List.getElem?_append_left hjl] at hq
    exact Or.inl (by rw [← e]; exact List.mem_of_getElem? hq)
  · rw [List.getElem?_append_right (by omega)] at hq
    have hl : j - G.length = 0 := by
      rcases Nat.eq_zero_or_pos (j - G.length) with h0 | h0
      · exact h0
      · rw [List.getElem?_eq_none (by simp; omega)] at hq; cases hq
    rw [hl] at hq
    simp at hq
    subst hq
    rw [if_pos (by omega)] at e
    exact Or.inr e.symm
theorem gAll_ok : ∀ (n : Nat) (l : List Fld), l.length = n → ∀ p ∈ gAll l, 0 < p.2.length ∧ ∀ f ∈ p.2, f ∈ l := by
  intro n
  induction n with
  | zero =>
    intro l h p hp
    rw [List.eq_nil_of_length_eq_zero h] at hp
    cases hp
  | succ n ih =>
    intro l h
    obtain ⟨l', f, rfl⟩ : ∃ l' f, l = l' ++ [f] := ⟨l.dropLast, l.getLast (fun e => by rw [e] at h; cases h), (List.dropLast_concat_getLast _).symm⟩
    have hl : l'.length = n := by simp at h; omega
    have h0 := ih l' hl
    rw [gAll_snoc]
    intro p hp
    have old : p ∈ gAll l' → 0 < p.2.length ∧ ∀ g ∈ p.2, g ∈ l' ++ [f] := fun h9 => ⟨(h0 p h9).1, fun g hg => List.mem_append_left _ ((h0 p h9).2 g hg)⟩
    unfold gPut at hp
    split at hp
    · rcases gMod_in hp with h9 | ⟨q, hq, rfl⟩
      · exact old h9
      · refine ⟨by simp, fun g hg => ?_⟩
        rcases List.mem_append.1 hg with h9 | h9
        · exact List.mem_append_left _ ((h0 q hq).2 g h9)
        · exact List.mem_append_right _ h9
    · rcases gMod_new hp with h9 | rfl
      · exact old h9
      · refine ⟨by simp, fun g hg => ?_⟩
        rw [List.mem_singleton] at hg
        subst hg
        exact List.mem_append_right _ (List.mem_singleton_self _)
/-- A row that grows, beside a block that is read. -/
structure FJ (B b5 : Nat) (W : World) (acc : List Fld) (ov : Value) (wr : World) : Prop where
  o : wr.ownsRow B 64 2 ov acc.length (fvH acc)
  bl : Below B W wr
  k : wr.heap[b5]? = W.heap[b5]?
  n : ov.ownBlock ≠ some b5
  lt : b5 < wr.heap.size
  b : B ≤ W.heap.size
theorem FJ.below {B b5 : Nat} {W wr w' : World} {acc : List Fld} {ov : Value} (h : FJ B b5 W acc ov wr) (hb : Below wr.heap.size wr w') : FJ B b5 W acc ov w' :=
  ⟨own_bel h.o hb, h.bl.trans (hb.mono (Nat.le_trans h.b h.bl.size)), (hb.block _ h.lt).trans h.k, h.n, Nat.lt_of_lt_of_le h.lt hb.size, h.b⟩
theorem FJ.next {B b5 g' cap' : Nat} {W wr w' : World} {acc : List Fld} {f : Fld} {ov : Value} {o : Obj} (h : FJ B b5 W acc ov wr) (h1 : w'.ownsRow B 64 2 (.slice (some ⟨g', 0, none⟩) (acc.length + 1) cap') (acc.length + 1) (fvH acc ++ [.string f.1, .string f.2])) (h2 : (wr.alloc o).grownBy w' ov.ownBlock) (h3 : ov.ownBlock = some g' ∨ g' = wr.heap.size + 1) :
    FJ B b5 W (acc ++ [f]) (.slice (some ⟨g', 0, none⟩) (acc.length + 1) cap') w' := by
  have hB : B ≤ wr.heap.size := Nat.le_trans h.b h.bl.size
  have hbb := grown_bel h.o hB h2
  refine ⟨by rw [List.length_append, fvH_snoc]; exact h1, h.bl.trans hbb, ?_, ?_, ?_, h.b⟩
  · exact ((h2.block b5 (by have := h.lt; simp; omega) (fun e => h.n e.symm)).trans (Below.heap_alloc wr o b5 h.lt)).trans h.k
  · intro e
    have e2 : g' = b5 := Option.some.inj e
    subst e2
    rcases h3 with h3 | h3
    · exact h.n h3
    · have := h.lt; omega
  · exact Nat.lt_of_lt_of_le h.lt hbb.size
/-- What a box of two strings holds is still there when a row elsewhere has grown. -/
theorem FJ.box {B b5 bx : Nat} {W wr w' : World} {acc : List Fld} {ov : Value} {x y : Value} {t : TypeId} {o : Obj} (h : FJ B b5 W acc ov wr) (hx : wr.heap[bx]? = some (.cells #[x, y] t (0, 0))) (hn : ov.ownBlock ≠ some bx) (h2 : (wr.alloc o).grownBy w' ov.ownBlock) : w'.cell? ⟨bx, 0, none⟩ = some x ∧ w'.cell? ⟨bx, 1, none⟩ = some y := by
  have hb := (h2.block bx (by have := blk_lt hx; simp; omega) (fun e => hn e.symm)).trans ((Below.heap_alloc wr o bx (blk_lt hx)).trans hx)
  exact ⟨blk_cell (i := 0) hb rfl, blk_cell (i := 1) hb rfl⟩
theorem own_upC {w : World} {B B' : Nat} {e : TypeId} {sz n : Nat} {v : Value} {xs : List Value} (h : w.ownsRow B e sz v n xs) (hB : B' ≤ B) : w.ownsRow B' e sz v n xs := by
  refine ⟨h.1, ?_⟩
  rcases h.2 with h1 | ⟨g, cap, cur, h1, h2, rest⟩
  · exact .inl h1
  · exact .inr ⟨g, cap, cur, h1, Nat.le_trans hB h2, rest⟩
theorem rdf_one {w : World} {b : Nat} {x y : ByteArray} {t : TypeId} (h : w.heap[b]? = some (.cells #[.string x, .string y] t (0, 0))) : RdF w (.slice (some ⟨b, 0, none⟩) 1 1) [(x, y)] := by
  refine ⟨_, 1, rfl, Nat.le_refl _, by unfold maxLen; omega, fun _ => ⟨b, 0, rfl, blk_lt h, fun j hj i hi => ?_⟩⟩
  simp at hj
  subst hj
  rcases (by omega : i = 0 ∨ i = 1) with rfl | rfl
  · exact blk_cell (i := 0) h rfl
  · exact blk_cell (i := 1) h rfl
end Go.Proofs.Ytocnecbhpofdgaa
