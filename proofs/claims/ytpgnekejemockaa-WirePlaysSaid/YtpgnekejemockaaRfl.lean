/- One element more behind a row of the call's own, within a range over a function. · Octets of the call's own that stand in a row from some place on; what is kept of foreign blocks. · A range over an iterator that keeps cells of its own: which blocks the iterator turns is said by a bound; the caller's invariant abides just those. -/
import Derived.Test.YtpgnekejemockaaGb
import Derived.Maps.OwnIn
import Derived.Lib.AppendStr
import Derived.RangeFuncNested
import Derived.RangeFuncBound
import Derived.RangeFuncCalls
import Derived.RangeFuncLeaves
namespace Go.Proofs.Ytpgnekejemockaa
open Go.RowKit
set_option linter.unusedVariables false
set_option linter.unusedSimpArgs false

theorem app_anyIn {F : Fence} {nF : Nat} {P : Program} {wr : World} {ops : Array Oper} {rest : List Oper} {o : Oper} {a : Act} {Q : Exit → Act → World → Prop} (hgd : o.guard = none) (s x : Operand) (t e : TypeId)
    (ho : o.op = .call { callee := .builtin .append, args := #[s, x], argTypes := #[t, t] }) (ht : P.underlying t = some (.slice e)) (z : Value) (sz by_ : Nat)
    (hi : (P.info? e).map (fun i => (i.zero, i.size, i.bytes)) = some (some z, sz, by_)) (hz : z.cells.size = sz) (hsz : 0 < sz) (B : Nat) (v : Value) (n : Nat) (xs : List Value) (hs : a.eval s = v) (hown : wr.ownsRow B e sz v n xs)
    (cs : Array Value) (hcs : cs.size = sz) (hone : ∀ u ∈ cs.toList, u.oneCell' = true) (H : Nat) (hH : wr.heap.size = H) (hx : a.eval x = .slice (some ⟨H, 0, none⟩) 1 1) (hlen : (n + 1) * by_ ≤ 140737488355328) (hm : n + 1 ≤ maxLen) (hB : B ≤ wr.heap.size)
    (h : ∀ g' cap' w', w'.ownsRow B e sz (.slice (some ⟨g', 0, none⟩) (n + 1) cap') (n + 1) (xs ++ cs.toList) → (wr.alloc (.cells cs e)).grownBy w' v.ownBlock → (v.ownBlock = some g' ∨ g' = wr.heap.size + 1) → wpListIn F nF P ops Q rest (a.put o.dst (.slice (some ⟨g', 0, none⟩) (n + 1) cap')) w') :
    wpListIn F nF P ops Q (o :: rest) a (wr.alloc (.cells cs e)) := by
  subst hH
  obtain ⟨i0, hi, hz0, hz1, hz2⟩ := info_parts hi
  refine wpListIn_append_own_at _ hgd s x t ho B e i0 z sz by_ ht hi hz0 hz1 hz2 hz hsz v n xs hs (hown.alloc _) ⟨wr.heap.size, 0, none⟩ 1 1 cs.toList hx (by simp [hcs]) (cells_new _ _ _) hone hm hlen (by simp; omega) ?_
  intro v' w' h1 h2 _ h4
  rcases h1.2 with ⟨_, h0⟩ | ⟨g, cap, cur, hv, r⟩
  · omega
  · subst hv
    refine h g cap w' h1 h2 ?_
    rcases h4 with h4 | h4
    · exact .inl h4.symm
    · right
      simp [Value.ownBlock] at h4
      exact h4
end Go.Proofs.Ytpgnekejemockaa
namespace Go.Proofs.Ytpgnekejemockaa
open Go.RowKit
set_option linter.unusedVariables false
set_option linter.unusedSimpArgs false

structure OwR (B : Nat) (e : TypeId) (g o cap : Nat) (cur : Array Value) (X : List UInt8) (w : World) : Prop where
  base : B ≤ g
  blk : w.heap[g]? = some (.cells cur e (0, 0))
  le : X.length ≤ cap
  max : cap ≤ maxLen
  fit : o + cap ≤ cur.size
  row : (cur.toList.drop o).take X.length = bv X
/-- The slice v holds the octets X, in a row of the call's own. -/
def OwO (B : Nat) (e : TypeId) (v : Value) (X : List UInt8) (w : World) : Prop :=
  (v = .slice none 0 0 ∧ X = []) ∨ ∃ g o cap cur, v = .slice (some ⟨g, o, none⟩) X.length cap ∧ OwR B e g o cap cur X w
theorem OwO.nil (B : Nat) (e : TypeId) (w : World) : OwO B e (.slice none 0 0) [] w := .inl ⟨rfl, rfl⟩
theorem OwO.form {B : Nat} {e : TypeId} {v : Value} {X : List UInt8} {w : World} (h : OwO B e v X w) : ∃ a c, v = .slice a X.length c ∧ X.length ≤ c ∧ c ≤ maxLen := by
  rcases h with ⟨rfl, rfl⟩ | ⟨g, o, cap, cur, rfl, hr⟩
  · exact ⟨none, 0, rfl, Nat.le_refl _, by unfold maxLen; omega⟩
  · exact ⟨_, _, rfl, hr.le, hr.max⟩
theorem OwO.lt {B : Nat} {e : TypeId} {v : Value} {X : List UInt8} {w : World} (h : OwO B e v X w) : ∀ k, v.ownBlock = some k → B ≤ k ∧ k < w.heap.size := by
  rcases h with ⟨rfl, rfl⟩ | ⟨g, o, cap, cur, rfl, hr⟩
  · intro k hk; simp [Value.ownBlock] at hk
  · intro k hk
    simp [Value.ownBlock] at hk
    subst hk
    exact ⟨hr.base, blk_lt hr.blk⟩
theorem OwO.kept {B : Nat} {e : TypeId} {v : Value} {X : List UInt8} {w w' : World} (h : OwO B e v X w) (hb : ∀ k, v.ownBlock = some k → k < w.heap.size → w'.heap[k]? = w.heap[k]?) : OwO B e v X w' := by
  rcases h with ⟨rfl, rfl⟩ | ⟨g, o, cap, cur, rfl, hr⟩
  · exact .nil _ _ _
  · exact .inr ⟨g, o, cap, cur, rfl, hr.base, (hb g rfl (blk_lt hr.blk)).trans hr.blk, hr.le, hr.max, hr.fit, hr.row⟩
theorem OwR.at {B : Nat} {e : TypeId} {g o cap : Nat} {cur : Array Value} {X : List UInt8} {w : World} (h : OwR B e g o cap cur X w) (j : Nat) (u : Value) (hj : (bv X)[j]? = some u) : w.cell? ((⟨g, o, none⟩ : Addr).add j) = some u := by
  rw [Addr.add_lit]
  refine blk_cell h.blk ?_
  have hlt : j < X.length := by rw [← bv_length X]; exact (List.getElem?_eq_some_iff.1 hj).1
  rw [← h.row, List.getElem?_take_of_lt hlt, List.getElem?_drop] at hj
  simpa using hj
/-- The first n octets of it as a text. -/
theorem OwR.text {P : Program} {B : Nat} {e src dst : TypeId} {g o cap : Nat} {cur : Array Value} {X : List UInt8} {w : World} (hs : P.underlying src = some (.slice e)) (he : P.underlying e = some (.int .u8)) (hd : P.underlying dst = some .string)
    (h : OwR B e g o cap cur X w) (n c : Nat) (hn : n ≤ X.length) : (convert src dst (.slice (some ⟨g, o, none⟩) n c)).run P w = .ok (.string ⟨(X.take n).toArray⟩) w := by
  have hl : (X.take n).length = n := by rw [List.length_take]; omega
  have key := run_convert_bytes_back (P := P) w src dst e ⟨g, o, none⟩ c (X.take n) hs he hd fun j hj => by
    refine h.at j _ ?_
    have hj2 : j < X.length := by rw [hl] at hj; omega
    simp [bv, hj2]
  rw [hl] at key
  exact key
/-- What is left behind the first n octets. -/
theorem OwR.drop {B : Nat} {e : TypeId} {g o cap : Nat} {cur : Array Value} {X : List UInt8} {w : World} (h : OwR B e g o cap cur X w) (n : Nat) (hn : n ≤ X.length) (hc : n ≠ cap) : OwO B e (.slice (some ⟨g, o + n, none⟩) (X.length - n) (cap - n)) (X.drop n) w := by
  refine .inr ⟨g, o + n, cap - n, cur, by rw [List.length_drop], h.base, h.blk, by rw [List.length_drop]; have := h.le; omega, by have := h.max; omega, by have := h.le; have := h.fit; omega, ?_⟩
  have hb : bv (X.drop n) = (bv X).drop n := by simp [bv]
  rw [hb, ← h.row, List.length_drop, ← List.drop_drop, List.drop_take]
theorem OwR.drop_all {B : Nat} {e : TypeId} {g o cap : Nat} {cur : Array Value} {X : List UInt8} {w : World} (h : OwR B e g o cap cur X w) (hc : X.length = cap) : OwO B e (.slice (some ⟨g, o, none⟩) (X.length - cap) (cap - cap)) (X.drop cap) w := by
  refine .inr ⟨g, o, 0, cur, by rw [List.length_drop, Nat.sub_self], h.base, h.blk, by rw [List.length_drop]; omega, by unfold maxLen; omega, by have := h.fit; omega, ?_⟩
  rw [← hc]; simp [bv]

section
variable {P : Program} (w : World)
theorem run_room_off (t u ty e : TypeId) (i : TypeInfo) (ht : P.underlying t = some (.slice e)) (hu : P.underlying u = some .string) (hi : P.info? e = some i) (hs1 : i.size = 1)
    (g o sLen sCap : Nat) (cur : Array Value) (hg : w.heap[g]? = some (.cells cur e (0, 0))) (s : ByteArray)
    (hroom : sLen + s.size ≤ sCap) (hfit : o + sLen + s.size ≤ cur.size) :
    (Builtin.append_ #[t, u] ty #[.slice (some ⟨g, o, none⟩) sLen sCap, .string s]).run P w =
      .ok (.slice (some ⟨g, o, none⟩) (sLen + s.size) sCap) (w.setRow g (cur.toList.take (o + sLen) ++ Lib.strCells s ++ cur.toList.drop (o + sLen + s.size)).toArray) := by
  have hf := Lib.run_firstCells_string (P := P) w 1 s
  have hst := run_storeCells_at P g (o + sLen) e (Lib.strCells s) 0 cur w hg (by simpa [Lib.strCells_length] using hfit) (Lib.strCells_oneCell s)
  simp only [Nat.add_zero, Lib.strCells_length] at hst
  simp [Builtin.append_, run_underlying ht, run_underlying hu, sizeOf, typeInfo, hi, hs1, Builtin.lenOf, hroom, hf, Addr.add_lit, hst]
theorem run_app_strO (B : Nat) (t u ty e : TypeId) (i : TypeInfo) (ht : P.underlying t = some (.slice e)) (hu : P.underlying u = some .string) (hi : P.info? e = some i) (hz : i.zero = some (.int .u8 0))
    (hsize : i.size = 1) (hby : i.bytes = 1) (v : Value) (X : List UInt8) (hown : OwO B e v X w) (s : ByteArray)
    (hlen : X.length + s.size ≤ 140737488355328) (hB : B ≤ w.heap.size) :
    ∃ v' w', (Builtin.append_ #[t, u] ty #[v, .string s]).run P w = .ok v' w' ∧ OwO B e v' (X ++ s.data.toList) w' ∧ w.grownBy w' v.ownBlock ∧ (v'.ownBlock = v.ownBlock ∨ v'.ownBlock = some w.heap.size) := by
  have h63 : X.length + s.size ≤ maxLen := by unfold maxLen; omega
  have hsb : Lib.strCells s = bv s.data.toList := rfl
  have grown : ∀ (old : Nat), old < X.length + s.size → ∀ (row : Option Nat),
      OwO B e (.slice (some ⟨w.heap.size, 0, none⟩) (X.length + s.size) (grownCap w (X.length + s.size) old e)) (X ++ s.data.toList)
        (w.drew.alloc (.cells ((bv X).toArray ++ (Lib.strCells s).toArray ++ Builtin.zeroCells (Value.int .u8 0).cells (grownCap w (X.length + s.size) old e - (X.length + s.size))) e)) ∧
      w.grownBy (w.drew.alloc (.cells ((bv X).toArray ++ (Lib.strCells s).toArray ++ Builtin.zeroCells (Value.int .u8 0).cells (grownCap w (X.length + s.size) old e - (X.length + s.size))) e)) row := by
    intro old ho row
    have hge := grownCap_ge w (X.length + s.size) old e
    have hcm : grownCap w (X.length + s.size) old e ≤ maxLen := grownCap_le_maxLen w (X.length + s.size) old e h63
    have hxl : (X ++ s.data.toList).length = X.length + s.size := by rw [List.length_append, ← ba_size']
    refine ⟨.inr ⟨w.heap.size, 0, _, _, by rw [hxl], hB, heap_alloc_new w.drew _, by rw [hxl]; exact hge, hcm, ?_, ?_⟩, ⟨rfl, rfl, rfl, by simp, fun k hk _ => Below.heap_alloc w.drew _ k hk⟩⟩
    · have hz1 : (Value.int IntKind.u8 0).cells.size = 1 := rfl
      simp only [Array.size_append, List.size_toArray, size_zeroCells, hz1, bv_length, Lib.strCells_length]
      omega
    · rw [List.drop_zero, hsb]
      simp only [Array.toList_append, List.append_assoc]
      rw [← List.append_assoc, ← bv_append, ← bv_length (X ++ s.data.toList)]
      exact List.take_left
  rcases hown with ⟨rfl, rfl⟩ | ⟨g, o, cap, cur, rfl, hr⟩
  · by_cases hm : s.size = 0
    · have hn : Lib.strCells s = [] := List.eq_nil_of_length_eq_zero (by rw [Lib.strCells_length]; exact hm)
      have hn2 : s.data.toList = [] := List.eq_nil_of_length_eq_zero (by rw [← ba_size']; exact hm)
      refine ⟨.slice none 0 0, w, ?_, by rw [hn2]; exact .nil _ _ _, ⟨rfl, rfl, rfl, Nat.le_refl _, fun _ _ _ => rfl⟩, .inl rfl⟩
      have hf := Lib.run_firstCells_string (P := P) w 1 s
      rw [hm] at hf
      simp [Builtin.append_, run_underlying ht, run_underlying hu, sizeOf, typeInfo, hi, hsize, Builtin.lenOf, hm, hf]
    · have hr := run_append_nil_string (P := P) w t u ty e i (.int .u8 0) ht hu hi hz s (by omega) (by simp at hlen; omega) (by rw [hby]; simp at hlen; omega)
      have hgr := grown 0 (by simp; omega) (Value.ownBlock (.slice none 0 0))
      have e0 : (bv []).toArray = #[] := rfl
      simp only [List.length_nil, Nat.zero_add, List.nil_append, e0, Array.empty_append] at hgr ⊢
      have e1 : (s.data.map fun b => Value.int .u8 b.toNat) = (Lib.strCells s).toArray := by
        apply Array.ext'
        simp [Lib.strCells]
      rw [e1] at hr
      exact ⟨_, _, hr, hgr.1, hgr.2, .inr rfl⟩
  · by_cases hroom : X.length + s.size ≤ cap
    · have hfit : o + X.length + s.size ≤ cur.size := by have := hr.fit; omega
      have hrun := run_room_off (P := P) w t u ty e i ht hu hi hsize g o X.length cap cur hr.blk s hroom hfit
      have hxl : (X ++ s.data.toList).length = X.length + s.size := by rw [List.length_append, ← ba_size']
      refine ⟨_, _, hrun, .inr ⟨g, o, cap, _, by rw [hxl], hr.base, setRow_heap w g cur _ e _ hr.blk, by rw [hxl]; exact hroom, hr.max, ?_, ?_⟩, ⟨rfl, rfl, rfl, by simp [World.setRow], fun k _ hk => setRow_other w g k _ (fun e => hk (by simp [Value.ownBlock, e]))⟩, .inl rfl⟩
      · simp only [List.size_toArray, List.length_append, List.length_take, List.length_drop, Array.length_toList, Lib.strCells_length]
        have := hr.fit
        omega
      · rw [hxl, hsb]
        have h1 : (cur.toList.take (o + X.length)).drop o = bv X := by rw [List.drop_take]; simpa using hr.row
        have h2 : (cur.toList.take (o + X.length)).length = o + X.length := by have h9 : cur.toList.length = cur.size := Array.length_toList; rw [List.length_take]; omega
        rw [List.append_assoc, List.drop_append_of_le_length (by rw [h2]; omega), h1, ← List.append_assoc, ← bv_append, ← hxl, ← bv_length (X ++ s.data.toList)]
        exact List.take_left
    · have hrun := Lib.run_append_grow_string (P := P) w t u ty e i (.int .u8 0) ht hu hi hz ⟨g, o, none⟩ X.length cap (bv X) (by rw [hsize, bv_length, Nat.mul_one]) hr.at s (by omega) (by omega) (by rw [hby]; exact growslice_fits (by omega) (by omega))
      have hgr := grown cap (by omega) (Value.ownBlock (.slice (some ⟨g, o, none⟩) X.length cap))
      exact ⟨_, _, hrun, hgr.1, hgr.2, .inr rfl⟩
end
/-- A text's octets more behind a row of the call's own. -/
theorem app_strO {P : Program} {wr : World} {ops : Array Oper} {rest : List Oper} {o : Oper} {a : Act} {Q : Exit → Act → World → Prop} (hgd : o.guard = none) (s x : Operand) (t u e : TypeId)
    (ho : o.op = .call { callee := .builtin .append, args := #[s, x], argTypes := #[t, u] }) (ht : P.underlying t = some (.slice e)) (hu : P.underlying u = some .string)
    (hi : (P.info? e).map (fun i => (i.zero, i.size, i.bytes)) = some (some (.int .u8 0), 1, 1)) (B : Nat) (v : Value) (X : List UInt8) (hs : a.eval s = v) (hown : OwO B e v X wr)
    (y : ByteArray) (hx : a.eval x = .string y) (hlen : X.length + y.size ≤ 140737488355328) (hB : B ≤ wr.heap.size)
    (h : ∀ a' c' w', OwO B e (.slice a' (X.length + y.size) c') (X ++ y.data.toList) w' → wr.grownBy w' v.ownBlock → ((Value.slice a' (X.length + y.size) c').ownBlock = v.ownBlock ∨ (Value.slice a' (X.length + y.size) c').ownBlock = some wr.heap.size) → wpList P ops Q rest (a.put o.dst (.slice a' (X.length + y.size) c')) w') :
    wpList P ops Q (o :: rest) a wr := by
  obtain ⟨i0, hi, hz0, hz1, hz2⟩ := info_parts hi
  refine wpList_plain hgd fun K hK => ?_
  obtain ⟨v', w', hr, h2, h3, h4⟩ := run_app_strO (P := P) wr B t u o.type e i0 ht hu hi hz0 hz1 hz2 v X hown y hlen hB
  obtain ⟨a', c', rfl, -⟩ := h2.form
  rw [List.length_append, ← ba_size'] at hr h2 h4
  unfold Oper.wp execOp
  simp only [ho, resolve, invoke, builtin, Sem.run_bind, Sem.run_pure, Result.andThen_ok, List.map_toArray, List.map_cons, List.map_nil, hs, hx, hr]
  exact hK _ _ (h a' c' w' h2 h3 h4)

/-- Foreign blocks stay as they are. -/
structure Kpt (F : Nat → Prop) (w w' : World) : Prop where
  os : w'.os = w.os
  tape : w'.tape = w.tape
  output : w'.output = w.output
  size : w.heap.size ≤ w'.heap.size
  block : ∀ k, k < w.heap.size → F k → w'.heap[k]? = w.heap[k]?
theorem Kpt.refl (F : Nat → Prop) (w : World) : Kpt F w w := ⟨rfl, rfl, rfl, Nat.le_refl _, fun _ _ _ => rfl⟩
theorem Kpt.trans {F : Nat → Prop} {u v w : World} (h : Kpt F u v) (k : Kpt F v w) : Kpt F u w :=
  ⟨k.os.trans h.os, k.tape.trans h.tape, k.output.trans h.output, Nat.le_trans h.size k.size, fun i hi hf => (k.block i (Nat.lt_of_lt_of_le hi h.size) hf).trans (h.block i hi hf)⟩
theorem Kpt.mono {F G : Nat → Prop} {u v : World} (h : Kpt F u v) (hg : ∀ k, G k → F k) : Kpt G u v := ⟨h.os, h.tape, h.output, h.size, fun k hk hf => h.block k hk (hg k hf)⟩
theorem Kpt.of {F : Nat → Prop} {w w' : World} (h : Below w.heap.size w w') : Kpt F w w' := ⟨h.os, h.tape, h.output, h.size, fun k hk _ => h.block k hk⟩
theorem Kpt.below {F : Nat → Prop} {B : Nat} {w w' : World} (h : Kpt F w w') (hB : B ≤ w.heap.size) (hF : ∀ k, k < B → F k) : Below B w w' := ⟨h.os, h.tape, h.output, h.size, fun k hk => h.block k (by omega) (hF k hk)⟩
theorem Kpt.drewN {F : Nat → Prop} {u w : World} (h : Kpt F u w) (n : Nat) : Kpt F u (w.drewN n) := ⟨h.os, h.tape, h.output, h.size, h.block⟩
theorem Kpt.drew {F : Nat → Prop} {u w : World} (h : Kpt F u w) : Kpt F u w.drew := ⟨h.os, h.tape, h.output, h.size, h.block⟩
theorem Kpt.setCell {F : Nat → Prop} {u w : World} {b : Nat} (h : Kpt F u w) (o : Nat) (v : Value) (hb : ¬ F b) : Kpt F u (w.setCell ⟨b, o, none⟩ v) :=
  ⟨h.os, h.tape, h.output, by simp [World.setCell]; exact h.size, fun k hk hf => (Below.heap_setCell _ _ _ _ (show k ≠ b from fun e => hb (e ▸ hf))).trans (h.block k hk hf)⟩
theorem Kpt.alloc {F : Nat → Prop} {u w : World} (h : Kpt F u w) (o : Obj) : Kpt F u (w.alloc o) :=
  ⟨h.os, h.tape, h.output, by simp; exact Nat.le_succ_of_le h.size, fun k hk hf => (Below.heap_alloc w o k (Nat.lt_of_lt_of_le hk h.size)).trans (h.block k hk hf)⟩
theorem Kpt.grown {F : Nat → Prop} {u w w' : World} {g : Option Nat} (h : Kpt F u w) (hg : w.grownBy w' g) (hF : ∀ k, g = some k → ¬ F k) : Kpt F u w' :=
  ⟨hg.os.trans h.os, hg.tape.trans h.tape, hg.output.trans h.output, Nat.le_trans h.size hg.size, fun k hk hf => (hg.block k (Nat.lt_of_lt_of_le hk h.size) (fun e => hF k e.symm hf)).trans (h.block k hk hf)⟩
theorem Kpt.onl {F : Nat → Prop} {u w w' : World} {b : Nat} {g : Option Nat} (h : Kpt F u w) (ho : Onl b g w w') (hb : ¬ F b) (hg : ∀ k, g = some k → ¬ F k) : Kpt F u w' :=
  ⟨ho.os.trans h.os, ho.tape.trans h.tape, ho.output.trans h.output, Nat.le_trans h.size ho.size, fun k hk hf => (ho.block k (Nat.lt_of_lt_of_le hk h.size) (fun e => hb (e ▸ hf)) (fun e => hg k e hf)).trans (h.block k hk hf)⟩
end Go.Proofs.Ytpgnekejemockaa
namespace Go.Proofs.Ytpgnekejemockaa
open Go.RowKit
set_option linter.unusedVariables false
set_option linter.unusedSimpArgs false

/-- Whatever holds, holds behind a turn of blocks from lo on and below hi, and where memory grows. -/
def Abd (lo hi : Nat) (I : World → Prop) : Prop := ∀ A A', I A → Kpt (fun k => k < lo ∨ hi ≤ k) A A' → I A'
theorem Abd.put {lo hi : Nat} {I : World → Prop} (h : Abd lo hi I) {A : World} (hA : I A) {r : Nat} (o : Obj) (h1 : lo ≤ r) (h2 : r < hi) : I (A.putObj r o) :=
  h A _ hA ⟨rfl, rfl, rfl, by simp, fun k _ hk => World.putObj_heap_other (by omega)⟩
theorem Abd.new {lo hi : Nat} {I : World → Prop} (h : Abd lo hi I) {A : World} (hA : I A) (o : Obj) : I (A.alloc o) := h A _ hA ((Kpt.refl _ A).alloc o)
theorem Abd.mono {lo hi lo' hi' : Nat} {I : World → Prop} (h : Abd lo hi I) (h1 : lo ≤ lo') (h2 : hi' ≤ hi) : Abd lo' hi' I :=
  fun A A' hA hg => h A A' hA (hg.mono fun k hk => by omega)
theorem kpt_at {A A' : World} {lo hi k : Nat} {o : Obj} (hg : Kpt (fun k => k < lo ∨ hi ≤ k) A A') (hk : A.heap[k]? = some o) (h : k < lo ∨ hi ≤ k) : A'.heap[k]? = some o := (hg.block k (blk_lt hk) h).trans hk
def rfPost {α : Type} (Fx : Nat → Prop) (I : List α → World → Prop) (Ix : Code → List α → World → Prop) (xs : List α) (W : World) : Exit → Act → World → Prop
  | .normal, _, W' => Kpt Fx W W' ∧ I xs W'
  | .ret, _, W' => Kpt Fx W W' ∧ Ix .ret xs W'
  | .exit id, _, W' => Kpt Fx W W' ∧ Ix (.exit id) xs W'
  | .goto t, _, W' => Kpt Fx W W' ∧ Ix (.goto t) xs W'
  | .panic _, _, _ => False
  | .outgrown, _, _ => False

section
variable {F : Fence} {n : Nat} {P : Program}
/-- What an iterator does that was called where memory had come to H blocks, with the record at H - 1: it keeps to the blocks from H on and below hi. -/
def SeqC {α : Type} (F : Fence) (n : Nat) (P : Program) (gf : Nat) (lb : Array Value) (encs : α → Array Value) (Gx : Nat → Prop) (hi : Nat) (S Sp : List α → Prop) (N : Nat) (l : Nat) (W : World) : Prop :=
  ∀ J Jx : List α → World → Prop, (∀ s, Abd W.heap.size hi (J s)) → (∀ s, Abd W.heap.size hi (Jx s)) →
    (∀ pre x W1, J pre W1 → pre.length < N → hi ≤ W1.heap.size → YieldAt F (n - 1) P l (encs x) W1 fun e W' => (e = .returned (.bool true) ∧ J (pre ++ [x]) W' ∧ Kpt Gx W1 W') ∨ (e = .returned (.bool false) ∧ Jx (pre ++ [x]) W')) →
    J [] W →
    CallsIn F n P gf (#[.func (.yield l) #[] #[]] ++ lb) W fun e W' => (∃ v, e = .returned v) ∧ ((∃ xs, S xs ∧ J xs W') ∨ (∃ pre, Sp pre ∧ Jx pre W'))

theorem rf_law {α : Type} {g : Operand} {ps : Array Tmp} {assign body : Code} {Q : Exit → Act → World → Prop} {a : Act} {w : World}
    (hro : F.round = none) (h1 : 1 ≤ n) {gf : Nat} {lb : Array Value} (hg : a.eval g = .func (.func gf) #[] lb) (hFg : F.fn gf) (eg : ∀ args w, (callFunc gf args).run P w = .ok (.enter gf args) w)
    {encs : α → Array Value} (Fx : Nat → Prop) (hi : Nat) (hhi : w.heap.size + 2 ≤ hi) (hFx : ∀ j, w.heap.size ≤ j → j < hi → Fx j) {S Sp : List α → Prop} {N : Nat}
    (hseq : ∀ W, W.heap.size = w.heap.size + 2 → Below w.heap.size w W → SeqC F (n - 1) P gf lb encs (fun j => Fx j ∧ j ≠ w.heap.size + 1) hi S Sp N (w.heap.size + 1) W)
    (hps : ∀ x, (encs x).size = ps.size)
    (I : List α → World → Prop) (Ix : Code → List α → World → Prop) (hI : ∀ s, Abd w.heap.size hi (I s)) (hIx : ∀ c s, Abd w.heap.size hi (Ix c s)) (h0 : I [] w) (a₁ : α → Act)
    (hassign : ∀ (l : Nat) (x : α) (W : World) (K : Act → World → Prop), K (a₁ x) W →
      assign.wpIn (F.inRound l) (n - 1 - 1) P (Exit.then K (fun _ _ _ => False)) { tmps := (ps.zip (encs x)).foldl (fun t (p, v) => t.setIfInBounds p v) a.tmps, defers := [] } W)
    (hbody : ∀ (l : Nat) (pre : List α) (x : α) (W : World), I pre W → pre.length < N → hi ≤ W.heap.size → body.wpIn (F.inRound l) (n - 1 - 1) P (rfPost Fx I Ix (pre ++ [x]) W) (a₁ x) W)
    (hdone : ∀ (xs : List α) (W : World), S xs → I xs W → W.heap[w.heap.size]? = some (.deferred (some [])) → Q .normal { a with defers := { target := .collected w.heap.size, args := #[] } :: a.defers } W)
    (hstop : ∀ (c : Code) (pre : List α) (W : World), Sp pre → Ix c pre W → W.heap[w.heap.size]? = some (.deferred (some [])) → c.wpIn F n P Q { a with defers := { target := .collected w.heap.size, args := #[] } :: a.defers } W) :
    (Code.rangeFunc g ps assign body).wpIn F n P Q a w := by
  refine wpIn_rangeFunc fun fn hfn => ?_
  rw [hro]
  let L : LoopState → Option Code → Obj := fun st pe => .loop { state := st, pending := pe, fn, tmps := a.tmps, params := ps, assign, body, defers := w.heap.size }
  obtain ⟨W1, hW1⟩ : ∃ W1, (w.alloc (.deferred (some []))).alloc (L .ready none) = W1 := ⟨_, rfl⟩
  have hs1 : W1.heap.size = w.heap.size + 2 := by rw [← hW1]; simp
  have hL1 : W1.heap[w.heap.size + 1]? = some (L .ready none) := by
    rw [← hW1]; have := World.alloc_heap_new (w.alloc (.deferred (some []))) (L .ready none); rwa [World.size_alloc] at this
  have hK1 : W1.heap[w.heap.size]? = some (.deferred (some [])) := by
    rw [← hW1]; exact blk_alloc (World.alloc_heap_new w _)
  have hI1 : I [] W1 := by rw [← hW1]; exact (hI _).new ((hI _).new h0 _) _
  have hb1 : Below w.heap.size w W1 := by rw [← hW1]; exact ((Below.refl _ w).alloc (Nat.le_refl _) _).alloc (by simp) _
  refine ⟨w.heap.size + 1, [{ target := .collected w.heap.size, args := #[] }], W1, { target := .fn (.func gf) lb, args := #[.func (.yield (w.heap.size + 1)) #[] #[]] }, W1, gf,
    #[.func (.yield (w.heap.size + 1)) #[] #[]] ++ lb, W1, ?_, ?_, ?_, ?_, fun _ => h1, ?_⟩
  · rw [← hW1]; exact run_enterLoop_outer _ _ _ _ _
  · simp only [resolve, hg]
    simp [go_sem]
  · intro f' hf'; simp [Target.leads] at hf'; subst hf'; exact hFg
  · simp [invoke, go_sem, eg]
  refine (hseq W1 hs1 hb1
    (fun pre W => I pre W ∧ W.heap[w.heap.size + 1]? = some (L .ready none) ∧ W.heap[w.heap.size]? = some (.deferred (some [])))
    (fun pre W => ∃ c, Ix c pre W ∧ W.heap[w.heap.size + 1]? = some (L .done (some c)) ∧ W.heap[w.heap.size]? = some (.deferred (some []))) ?_ ?_ ?_ ⟨hI1, hL1, hK1⟩).mono ?_
  · intro s A A' hs hg'
    rw [hs1] at hg'
    exact ⟨hI s A A' hs.1 (hg'.mono fun k hk => by omega), kpt_at hg' hs.2.1 (.inl (by omega)), kpt_at hg' hs.2.2 (.inl (by omega))⟩
  · intro s A A' hs hg'
    rw [hs1] at hg'
    obtain ⟨c, q1, q2, q3⟩ := hs
    exact ⟨c, hIx c s A A' q1 (hg'.mono fun k hk => by omega), kpt_at hg' q2 (.inl (by omega)), kpt_at hg' q3 (.inl (by omega))⟩
  · rintro pre x W ⟨hiW, hl, hk⟩ hlen hsz
    have hy := run_yield (P := P) (args := encs x) hl (hps x)
    refine ⟨fn, _, assign, body, hy, roundIn_of_wpIn hfn (hassign _ x W _ ⟨_, run_beginRound hl rfl, ?_⟩)⟩
    have hlt := blk_lt hl
    have B0 : ∀ o, (W.putObj (w.heap.size + 1) o).heap.size = W.heap.size := fun o => World.putObj_size
    have B1 : ∀ o, (W.putObj (w.heap.size + 1) o).heap[w.heap.size + 1]? = some o := fun o => World.putObj_heap_same hlt
    have B2 : ∀ o, (W.putObj (w.heap.size + 1) o).heap[w.heap.size]? = some (.deferred (some [])) := fun o => (World.putObj_heap_other (by omega)).trans hk
    have B3 : ∀ o, Kpt (fun j => Fx j ∧ j ≠ w.heap.size + 1) W (W.putObj (w.heap.size + 1) o) := fun o => ⟨rfl, rfl, rfl, by simp, fun k _ hk => World.putObj_heap_other hk.2⟩
    refine wpIn_mono (hbody _ pre x _ ((hI _).put hiW _ (by omega) (by omega)) hlen (by rw [B0]; exact hsz)) ?_
    have fin : ∀ (jump : Option Code) (W3 : World), Kpt Fx (W.putObj (w.heap.size + 1) (L .busy none)) W3 →
        (Instr.endRound (w.heap.size + 1) jump).run P W3 = .ok (.bool jump.isNone) (W3.putObj (w.heap.size + 1) (L (if jump.isNone then .ready else .done) jump)) ∧
        (W3.putObj (w.heap.size + 1) (L (if jump.isNone then .ready else .done) jump)).heap[w.heap.size + 1]? = some (L (if jump.isNone then .ready else .done) jump) ∧
        (W3.putObj (w.heap.size + 1) (L (if jump.isNone then .ready else .done) jump)).heap[w.heap.size]? = some (.deferred (some [])) ∧
        Kpt (fun j => Fx j ∧ j ≠ w.heap.size + 1) W (W3.putObj (w.heap.size + 1) (L (if jump.isNone then .ready else .done) jump)) := fun jump W3 hk3 => by
      have g1 : W3.heap[w.heap.size + 1]? = some (L .busy none) := (hk3.block _ (by rw [B0]; exact hlt) (hFx _ (by omega) (by omega))).trans (B1 _)
      have g2 : W3.heap[w.heap.size]? = some (.deferred (some [])) := (hk3.block _ (by rw [B0]; omega) (hFx _ (by omega) (by omega))).trans (B2 _)
      refine ⟨run_endRound (P := P) jump g1, World.putObj_heap_same (blk_lt g1), (World.putObj_heap_other (by omega)).trans g2, ?_⟩
      refine ((B3 _).trans (hk3.mono fun k hk => hk.1)).trans ⟨rfl, rfl, rfl, by simp, fun k _ hk => World.putObj_heap_other hk.2⟩
    rintro e a3 W3 hp
    cases e with
    | normal =>
      obtain ⟨q1, q2⟩ := hp
      obtain ⟨r1, r2, r3, r4⟩ := fin none W3 q1
      exact ⟨_, _, r1, .inl ⟨rfl, ⟨(hI _).put q2 _ (by omega) (by omega), r2, r3⟩, r4⟩⟩
    | ret =>
      obtain ⟨q1, q2⟩ := hp
      obtain ⟨r1, r2, r3, r4⟩ := fin (some .ret) W3 q1
      exact ⟨_, _, r1, .inr ⟨rfl, .ret, (hIx _ _).put q2 _ (by omega) (by omega), r2, r3⟩⟩
    | exit id =>
      obtain ⟨q1, q2⟩ := hp
      obtain ⟨r1, r2, r3, r4⟩ := fin (some (.exit id)) W3 q1
      exact ⟨_, _, r1, .inr ⟨rfl, .exit id, (hIx _ _).put q2 _ (by omega) (by omega), r2, r3⟩⟩
    | goto t =>
      obtain ⟨q1, q2⟩ := hp
      obtain ⟨r1, r2, r3, r4⟩ := fin (some (.goto t)) W3 q1
      exact ⟨_, _, r1, .inr ⟨rfl, .goto t, (hIx _ _).put q2 _ (by omega) (by omega), r2, r3⟩⟩
    | panic ch => exact hp.elim
    | outgrown => exact hp.elim
  · rintro e W2 ⟨⟨v, rfl⟩, (⟨xs, hS, q1, q2, q3⟩ | ⟨pre, hSp, c, q1, q2, q3⟩)⟩
    · exact ⟨none, _, run_endLoop (P := P) q2 (by simp), hdone xs _ hS ((hI _).put q1 _ (by omega) (by omega)) ((World.putObj_heap_other (by omega)).trans q3)⟩
    · exact ⟨some c, _, run_endLoop (P := P) q2 (by simp), hstop c pre _ hSp ((hIx _ _).put q1 _ (by omega) (by omega)) ((World.putObj_heap_other (by omega)).trans q3)⟩
end
end Go.Proofs.Ytpgnekejemockaa
