/- Heads in one form (layer 50): fields by their names: groups in memory. -/
import Derived.Test.YtocnecbhpofdgaaCaa
import Derived.Test.YtocnecbhpofdgaaOpb
import Derived.Test.YtocnecbhpofdgaaRfl
import Derived.Maps.RangeWalk
import Derived.Maps.OwnOps
namespace Go.Proofs.Ytocnecbhpofdgaa
open Go.RowKit
set_option linter.unusedVariables false
set_option linter.unusedSimpArgs false

abbrev Grp := ByteArray × List Fld
/-- At which place a name's group stands. -/
def gIx (G : List Grp) (x : ByteArray) : Option Nat := G.findIdx? (fun p => decide (p.1 = x))
/-- One field more in the group at i. -/
def gMod (G : List Grp) (i : Nat) (f : Fld) : List Grp := G.modify i (fun p => (p.1, p.2 ++ [f]))
def gPut (G : List Grp) (f : Fld) : List Grp := match gIx G (lowB f.1) with
  | some i => gMod G i f
  | none => gMod (G ++ [(lowB f.1, [])]) G.length f
def gAll (l : List Fld) : List Grp := l.foldl gPut []
theorem gAll_snoc (l : List Fld) (f : Fld) : gAll (l ++ [f]) = gPut (gAll l) f := by unfold gAll; rw [List.foldl_append]; rfl
theorem gMod_len (G : List Grp) (i : Nat) (f : Fld) : (gMod G i f).length = G.length := by unfold gMod; rw [List.length_modify]
theorem gIx_lt {G : List Grp} {x : ByteArray} {i : Nat} (h : gIx G x = some i) : i < G.length := by
  obtain ⟨h1, _⟩ := List.findIdx?_eq_some_iff_getElem.1 h
  exact h1
theorem gIx_keys : ∀ {G G' : List Grp} (x : ByteArray), G.map (·.1) = G'.map (·.1) → gIx G x = gIx G' x := by
  intro G G' x h
  have : ∀ G : List Grp, gIx G x = (G.map (·.1)).findIdx? (fun k => decide (k = x)) := fun G => by unfold gIx; rw [List.findIdx?_map]; rfl
  rw [this, this, h]
theorem gMod_keys (G : List Grp) (i : Nat) (f : Fld) : (gMod G i f).map (·.1) = G.map (·.1) := by
  unfold gMod
  apply List.ext_getElem?
  intro j
  rw [List.getElem?_map, List.getElem?_map, List.getElem?_modify]
  by_cases e : i = j
  · subst e
    cases G[i]? <;> simp
  · simp [e]
theorem gIx_mod (G : List Grp) (i : Nat) (f : Fld) (x : ByteArray) : gIx (gMod G i f) x = gIx G x := gIx_keys x (gMod_keys G i f)
theorem gIx_app {G : List Grp} {x : ByteArray} (h : gIx G x = none) (y : ByteArray) : gIx (G ++ [(x, [])]) y = if y = x then some G.length else gIx G y := by
  unfold gIx at *
  rw [List.findIdx?_append]
  by_cases e : y = x
  · subst e
    rw [if_pos rfl, h]
    simp
  · rw [if_neg e]
    cases hy : List.findIdx? (fun p : Grp => decide (p.1 = y)) G with
    | some i => rfl
    | none =>
      simp
      exact fun h => e h.symm
/-- Who stands where, as the map's datum holds it. -/
def FS (D : DataW Unit) (F : ByteArray → Option Nat) : Prop :=
  ∀ x : ByteArray, x.size ≤ maxLen → Maps.has D (.string x.data.toList) = (F x).isSome ∧ D.atKey (.string x.data.toList) (.lit (.int .i64 0)) = .lit (.int .i64 ((F x).getD 0 : Nat))
theorem FS.start : FS (.map []) (gIx []) := fun _ _ => ⟨rfl, rfl⟩
theorem strlit_ne {x y : ByteArray} (h : x ≠ y) : (Lit.string x.data.toList) ≠ Lit.string y.data.toList := fun e => h (by
  injection e with e
  exact ba_ext e)
theorem FS.put {D : DataW Unit} {F F' : ByteArray → Option Nat} (h : FS D F) (hm : Maps.IsMap D) (x : ByteArray) (v : Nat) (hk : WideAt.IsKeyLit (.string x.data.toList)) (hF : ∀ y, F' y = if y = x then some v else F y) : FS (D.put (.string x.data.toList) (.lit (.int .i64 (v : Nat)))) F' := by
  intro y hw
  rw [hF y]
  by_cases e : y = x
  · subst e
    rw [if_pos rfl]
    exact ⟨Maps.has_put_same hm hk _, Maps.atKey_put_same hm hk _ _⟩
  · rw [if_neg e, Maps.has_put_other (strlit_ne e), Maps.atKey_put_other (strlit_ne e)]
    exact h y hw
theorem FS.cong {D : DataW Unit} {F F' : ByteArray → Option Nat} (h : FS D F) (hF : ∀ y, F y = F' y) : FS D F' := fun y hw => by rw [← hF y]; exact h y hw
theorem Try.keyS : Maps.Keyed Try.prog 9 := Maps.string_keyed Try.underlying9
theorem Try.zeroSI (w : World) : (zeroValue 3).run Try.prog w = .ok (.int .i64 0) w := by kernel_rfl
theorem isKeyS (l : List UInt8) : WideAt.IsKeyLit (.string l) := by first | trivial | simp [WideAt.IsKeyLit]
theorem keyOf_str_mk {P : Program} {k : TypeId} (hk : P.underlying k = some .string) (x : ByteArray) (hx : x.size ≤ maxLen) : keyOf P k (.string x) = some (.string x.data.toList) := by
  simp [keyOf, hk, mapKey]
  exact hx
theorem own_type_ne {w : World} {B B' sz sz' n n' : Nat} {e e' : TypeId} {v v' : Value} {xs xs' : List Value} (h : w.ownsRow B e sz v n xs) (h' : w.ownsRow B' e' sz' v' n' xs') (hne : e ≠ e') : ∀ g, v.ownBlock = some g → v'.ownBlock ≠ some g := by
  intro g hg hg'
  rcases h.2 with ⟨h1, _⟩ | ⟨g1, cap, cur, h1, _, h3, _⟩
  · subst h1; cases hg
  · rcases h'.2 with ⟨k1, _⟩ | ⟨g2, cap2, cur2, k1, _, k3, _⟩
    · subst k1; cases hg'
    · subst h1 k1
      cases hg
      cases hg'
      rw [h3] at k3
      cases k3
      exact hne rfl
theorem own_kC {w w' : World} {B : Nat} {e : TypeId} {sz n : Nat} {v : Value} {xs : List Value} (h : w.ownsRow B e sz v n xs) (hk : ∀ k, k < w.heap.size → v.ownBlock = some k → w'.heap[k]? = w.heap[k]?) : w'.ownsRow B e sz v n xs := by
  refine ⟨h.1, ?_⟩
  rcases h.2 with h1 | ⟨g, cap, cur, h1, h2, h3, rest⟩
  · exact .inl h1
  · refine .inr ⟨g, cap, cur, h1, h2, (hk g (blk_lt h3) ?_).trans h3, rest⟩
    subst h1
    rfl
/-- The groups in memory: a row of slices, each one a row of its own. -/
structure GR (B : Nat) (G : List Grp) (gv : Value) (vs : List Value) (w : World) : Prop where
  row : w.ownsRow B 22 1 gv G.length vs
  len : vs.length = G.length
  each : ∀ (i : Nat) (v : Value), vs[i]? = some v → ∀ p : Grp, G[i]? = some p → w.ownsRow B 64 2 v p.2.length (fvH p.2)
  sep : ∀ (i j : Nat) (u v : Value), i ≠ j → vs[i]? = some u → vs[j]? = some v → ∀ g, u.ownBlock = some g → v.ownBlock ≠ some g
theorem GR.keep {B : Nat} {G : List Grp} {gv : Value} {vs : List Value} {w w' : World} (h : GR B G gv vs w) (hk : ∀ k, B ≤ k → k < w.heap.size → w'.heap[k]? = w.heap[k]?) : GR B G gv vs w' :=
  ⟨own_kC h.row fun k hl hv => hk k (h.row.lt k hv).1 hl, h.len, fun i v hv p hp => own_kC (h.each i v hv p hp) fun k hl hb => hk k ((h.each i v hv p hp).lt k hb).1 hl, h.sep⟩
theorem GR.below {B : Nat} {G : List Grp} {gv : Value} {vs : List Value} {w w' : World} (h : GR B G gv vs w) (hb : Below w.heap.size w w') : GR B G gv vs w' := h.keep fun k _ hk => hb.block k hk
/-- One group more, with no field yet. -/
theorem GR.more {B : Nat} {G : List Grp} {gv gv' : Value} {vs : List Value} {x : ByteArray} {w w' : World} {o : Obj} (h : GR B G gv vs w) (h1 : w'.ownsRow B 22 1 gv' (G.length + 1) (vs ++ [.slice none 0 0])) (h2 : (w.alloc o).grownBy w' gv.ownBlock) (hne : 22 ≠ 64) :
    GR B (G ++ [(x, [])]) gv' (vs ++ [.slice none 0 0]) w' := by
  refine ⟨by rw [List.length_append]; exact h1, by rw [List.length_append, List.length_append, h.len]; rfl, fun i v hv p hp => ?_, fun i j u v hij hu hv g hg hg' => ?_⟩
  · by_cases hi : i < G.length
    · rw [List.getElem?_append_left (by rw [h.len]; exact hi)] at hv
      rw [List.getElem?_append_left hi] at hp
      have hr := h.each i v hv p hp
      exact own_kC hr fun k hk hb => (h2.block k (by simp; omega) (fun e => own_type_ne h.row hr hne k e.symm hb)).trans (Below.heap_alloc w o k hk)
    · rw [List.getElem?_append_right (by rw [h.len]; omega)] at hv
      rw [List.getElem?_append_right (by omega)] at hp
      have hl : i - G.length = 0 := by
        rcases Nat.eq_zero_or_pos (i - G.length) with h0 | h0
        · exact h0
        · rw [List.getElem?_eq_none (by simp; omega)] at hp; cases hp
      rw [h.len, hl] at hv
      rw [hl] at hp
      simp at hv hp
      subst hv hp
      exact World.ownsRow_nil _ _ _ _
  · have hlt : ∀ (i : Nat) (v : Value) (g : Nat), (vs ++ [Value.slice none 0 0])[i]? = some v → v.ownBlock = some g → i < vs.length := fun i v g hv hg => by
      by_cases hi : i < vs.length
      · exact hi
      · rw [List.getElem?_append_right (by omega)] at hv
        have hl : i - vs.length = 0 := by
          rcases Nat.eq_zero_or_pos (i - vs.length) with h0 | h0
          · exact h0
          · rw [List.getElem?_eq_none (by simp; omega)] at hv; cases hv
        rw [hl] at hv
        simp at hv
        subst hv
        cases hg
    have hi := hlt i u g hu hg
    have hj := hlt j v g hv hg'
    rw [List.getElem?_append_left hi] at hu
    rw [List.getElem?_append_left hj] at hv
    exact h.sep i j u v hij hu hv g hg hg'
/-- A field put to the group at i. -/
theorem GR.put {B : Nat} {G : List Grp} {gg nn cap : Nat} {vs : List Value} {i g' : Nat} {f : Fld} {vi v' : Value} {p : Grp} {w w' : World} {o : Obj} (h : GR B G (.slice (some ⟨gg, 0, none⟩) nn cap) vs w) (hvi : vs[i]? = some vi) (hp : G[i]? = some p)
    (h1 : w'.ownsRow B 64 2 v' (p.2.length + 1) (fvH p.2 ++ [.string f.1, .string f.2])) (h2 : (w.alloc o).grownBy w' vi.ownBlock) (hg : v'.ownBlock = some g') (h3 : vi.ownBlock = some g' ∨ g' = w.heap.size + 1) (hne : 22 ≠ 64) :
    GR B (gMod G i f) (.slice (some ⟨gg, 0, none⟩) nn cap) (vs.set i v') (w'.setCell ⟨gg, i, none⟩ v') := by
  have hri := h.each i vi hvi p hp
  have hil : i < vs.length := (List.getElem?_eq_some_iff.1 hvi).1
  have hgr : (Value.slice (some ⟨gg, 0, none⟩) nn cap).ownBlock = some gg := rfl
  have hgl := h.row.lt gg hgr
  have hgne : vi.ownBlock ≠ some gg := fun e => own_type_ne h.row hri hne gg hgr e
  have hg2 : g' ≠ gg := by
    rintro rfl
    rcases h3 with h3 | h3
    · exact hgne h3
    · omega
  have hrow1 : w'.ownsRow B 22 1 (.slice (some ⟨gg, 0, none⟩) nn cap) G.length vs := own_kC h.row fun k hk hb => (h2.block k (by simp; omega) (fun e => by rw [hgr] at hb; cases hb; exact hgne e.symm)).trans (Below.heap_alloc w o k hk)
  refine ⟨?_, by rw [List.length_set, gMod_len]; exact h.len, fun j v hv q hq => ?_, fun j k u v hjk hu hv g hgu hgv => ?_⟩
  · rw [gMod_len]
    refine ⟨by rw [List.length_set]; exact hrow1.1, ?_⟩
    rcases hrow1.2 with ⟨e1, _⟩ | ⟨g2, cap2, cur, e1, e2, e3, e4, e5, e6, e7⟩
    · cases e1
    · cases e1
      refine .inr ⟨gg, cap, cur.setIfInBounds i v', rfl, e2, blk_set e3 v', e4, e5, by rw [Array.size_setIfInBounds]; exact e6, ?_⟩
      rw [Array.toList_setIfInBounds, List.take_set, e7]
  · by_cases hji : j = i
    · subst hji
      rw [List.getElem?_set_self hil] at hv
      cases hv
      have hq' : q = (p.1, p.2 ++ [f]) := by
        unfold gMod at hq
        rw [List.getElem?_modify, hp] at hq
        simpa using hq.symm
      subst hq'
      have e8 : fvH (p.2 ++ [f]) = fvH p.2 ++ [.string f.1, .string f.2] := by simp [fvH, fldC]
      show (w'.setCell ⟨gg, j, none⟩ v').ownsRow B _ 2 v' (p.2 ++ [f]).length (fvH (p.2 ++ [f]))
      rw [e8, List.length_append]
      exact own_kC h1 fun k hk hb => Below.heap_setCell _ _ _ _ (fun e => hg2 (by rw [hg] at hb; cases hb; exact e))
    · rw [List.getElem?_set_ne (fun e => hji e.symm)] at hv
      have hq2 : G[j]? = some q := by
        unfold gMod at hq
        rw [List.getElem?_modify] at hq
        have hij : ¬ i = j := fun e => hji e.symm
        simpa [hij] using hq
      have hrj := h.each j v hv q hq2
      exact own_kC hrj fun k hk hb => (Below.heap_setCell _ _ _ _ (fun e => own_type_ne h.row hrj hne gg hgr (hb.trans (congrArg some e)))).trans ((h2.block k (by simp; omega) (fun e => h.sep i j vi v (fun e => hji e.symm) hvi hv k e.symm hb)).trans (Below.heap_alloc w o k hk))
  · have hold : ∀ (j : Nat) (v : Value), j ≠ i → (vs.set i v')[j]? = some v → vs[j]? = some v := fun j v hj hv => by rwa [List.getElem?_set_ne (fun e => hj e.symm)] at hv
    have hnew : ∀ (j : Nat) (v : Value), j ≠ i → vs[j]? = some v → ∀ g, v.ownBlock = some g → g ≠ g' := fun j v hj hv g hgv e => by
      subst e
      obtain ⟨q, hq⟩ : ∃ q, G[j]? = some q := by
        have hjl : j < G.length := by rw [← h.len]; exact (List.getElem?_eq_some_iff.1 hv).1
        exact ⟨_, List.getElem?_eq_getElem hjl⟩
      have hlt := (h.each j v hv q hq).lt g hgv
      rcases h3 with h3 | h3
      · exact h.sep i j vi v (fun e => hj e.symm) hvi hv g h3 hgv
      · omega
    by_cases hj : j = i
    · subst hj
      rw [List.getElem?_set_self hil] at hu
      cases hu
      rw [hg] at hgu
      cases hgu
      exact hnew k v (fun e => hjk e.symm) (hold k v (fun e => hjk e.symm) hv) g' hgv rfl
    · by_cases hk : k = i
      · subst hk
        rw [List.getElem?_set_self hil] at hv
        cases hv
        rw [hg] at hgv
        cases hgv
        exact hnew j u hj (hold j u hj hu) g' hgu rfl
      · exact h.sep j k u v hjk (hold j u hj hu) (hold k v hk hv) g hgu hgv
end Go.Proofs.Ytocnecbhpofdgaa
