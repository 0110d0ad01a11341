/- What came in, read as data: integers, bools, texts, structs, slices of these, at any depth; slices as lists. · A thing of the call's own that lies in a block and in a row of its own: what stays when it turns. A block of six cells. -/
import Derived.WalkKit
import Derived.ProofKit
import Derived.OpenShut
import Derived.ShutString
import Derived.ChangeOld
import Derived.Below
import Derived.Laws.AppendOwn
import Derived.Test.YtcbfhlnnfnpkdaaGreatDoorPb
import Derived.OneCell
import Derived.Maps.AppendAt
import Derived.Deep.QuietTactic
import Derived.BigQuiet
namespace Go.Proofs.YtcbfhlnnfnpkdaaGreatDoor
open Go.ChangeShapes Go.WideShapes Go.ChangeAt Go.RowKit
set_option linter.unusedVariables false
set_option linter.unusedSimpArgs false

/-- The cells cs read as data of the type t. -/
def Rdb (P : Program) (w : World) (t : TypeId) (cs : List Value) : Prop :=
  ∃ (H : Type) (enc : TypeId × Value → H) (base : Nat) (sp : Nat → Bool) (held : Bool) (n : Nat) (x : DataW H × List MemPlace), DataW.trod enc P w base sp held n t cs = some x
/-- The value v came in as data of the type t. -/
def Arg (P : Program) (w : World) (t : TypeId) (v : Value) : Prop := (∃ r b0, Value.okWide P w r b0 t v) ∧ Rdb P w t v.cells.toList
theorem Arg.of {H : Type} {enc : TypeId × Value → H} {P : Program} {w : World} {base : Nat} {sp : Nat → Bool} {held : Bool} {r : Reach} {b0 : Nat} {t : TypeId} {v : Value} {d : DataW H} {p : List MemPlace}
    (hv : Value.okWide P w r b0 t v) (h : DataW.Trod enc P w base sp held t v d p) : Arg P w t v := by
  obtain ⟨n, hn⟩ := h
  exact ⟨⟨r, b0, hv⟩, H, enc, base, sp, held, n, _, hn⟩

theorem Rdb.int {P : Program} {w : World} {t : TypeId} {cs : List Value} {k : IntKind} (ht : P.underlying t = some (.int k)) (h : Rdb P w t cs) : ∃ n : Int, cs = [.int k n] ∧ (Lit.int k n).wf = true := by
  obtain ⟨H, enc, base, sp, held, n, x, hx⟩ := h
  obtain ⟨m, h1, _, h2⟩ := DataW.trod_int ht hx
  exact ⟨m, h1, h2⟩
theorem Rdb.bool {P : Program} {w : World} {t : TypeId} {cs : List Value} (ht : P.underlying t = some .bool) (h : Rdb P w t cs) : ∃ b : Bool, cs = [.bool b] := by
  obtain ⟨H, enc, base, sp, held, n, x, hx⟩ := h
  obtain ⟨b, h1, _⟩ := DataW.trod_bool ht hx
  exact ⟨b, h1⟩
theorem Rdb.str {P : Program} {w : World} {t : TypeId} {cs : List Value} (ht : P.underlying t = some .string) (h : Rdb P w t cs) : ∃ s : ByteArray, cs = [.string s] ∧ s.size ≤ maxLen := by
  obtain ⟨H, enc, base, sp, held, n, x, hx⟩ := h
  obtain ⟨s, h1, _, h2⟩ := DataW.trod_string ht hx
  exact ⟨s, h1, h2⟩
theorem Rdb.struct {P : Program} {w : World} {t : TypeId} {cs : List Value} {fs : Array Field} (ht : P.underlying t = some (.struct fs)) (h : Rdb P w t cs) :
    cs.length = P.cellsOf t ∧ ∀ (i : Nat) (f : Field), fs[i]? = some f → Rdb P w f.type ((cs.drop f.offset).take (P.cellsOf f.type)) := by
  obtain ⟨H, enc, base, sp, held, n, x, hx⟩ := h
  obtain ⟨xs, m, _, _, hlen, hxl, hg⟩ := DataW.trod_struct ht hx
  refine ⟨hlen, fun i f hi => ?_⟩
  have hil : i < xs.length := by rw [hxl]; exact (Array.getElem?_eq_some_iff.1 hi).1
  have h1 := hg i f hi
  rw [List.getElem?_eq_getElem hil] at h1
  exact ⟨H, enc, base, sp, held, m, _, h1⟩

/-- The slice v holds the list l, each element in sz cells. -/
def RdL {α : Type} (f : α → List Value) (sz : Nat) (w : World) (v : Value) (l : List α) : Prop :=
  ∃ a c, v = .slice a l.length c ∧ l.length ≤ c ∧ c ≤ maxLen ∧ (0 < l.length → ∃ b o, a = some ⟨b, o, none⟩ ∧ b < w.heap.size ∧
    ∀ (j : Nat) (h : j < l.length) (i : Nat), i < sz → w.cell? ⟨b, o + j * sz + i, none⟩ = (f l[j])[i]?)
theorem RdL.below {α : Type} {f : α → List Value} {sz : Nat} {w w' : World} {v : Value} {l : List α} (h : RdL f sz w v l) (hb : Below w.heap.size w w') : RdL f sz w' v l := by
  obtain ⟨a, c, h1, h2, h3, h4⟩ := h
  refine ⟨a, c, h1, h2, h3, fun h0 => ?_⟩
  obtain ⟨b, o, g1, g2, g3⟩ := h4 h0
  exact ⟨b, o, g1, Nat.lt_of_lt_of_le g2 hb.size, fun j hj i hi => by rw [hb.cell (p := ⟨b, _, none⟩) g2]; exact g3 j hj i hi⟩
/-- As long as its block stays. -/
theorem RdL.stays {α : Type} {f : α → List Value} {sz : Nat} {w w' : World} {v : Value} {l : List α} (h : RdL f sz w v l) (hs : w.heap.size ≤ w'.heap.size)
    (hb : ∀ k, k < w.heap.size → v.ownBlock = some k → w'.heap[k]? = w.heap[k]?) : RdL f sz w' v l := by
  obtain ⟨a, c, h1, h2, h3, h4⟩ := h
  refine ⟨a, c, h1, h2, h3, fun h0 => ?_⟩
  obtain ⟨b, o, g1, g2, g3⟩ := h4 h0
  have hbb := hb b g2 (by rw [h1, g1]; rfl)
  exact ⟨b, o, g1, Nat.lt_of_lt_of_le g2 hs, fun j hj i hi => by rw [World.cell?_of_block (w := w) hbb]; exact g3 j hj i hi⟩
theorem RdL.nil {α : Type} {f : α → List Value} {sz : Nat} {w : World} {a : Option Addr} {c : Nat} (hc : c ≤ maxLen) : RdL (α := α) f sz w (.slice a 0 c) [] :=
  ⟨a, c, rfl, Nat.zero_le _, hc, fun h => absurd h (by simp)⟩
theorem flat_at {α : Type} {f : α → List Value} {sz : Nat} (hf : ∀ x, (f x).length = sz) : ∀ (l : List α) (j : Nat) (h : j < l.length) (i : Nat), i < sz → (l.flatMap f)[j * sz + i]? = (f l[j])[i]?
  | x :: l, 0, _, i, hi => by
    simp only [List.flatMap_cons, Nat.zero_mul, Nat.zero_add, List.getElem_cons_zero]
    rw [List.getElem?_append_left (by rw [hf]; exact hi)]
  | x :: l, j + 1, h, i, hi => by
    have ih := flat_at hf l j (by simpa using h) i hi
    simp only [List.flatMap_cons, List.getElem_cons_succ]
    rw [List.getElem?_append_right (by rw [hf, Nat.succ_mul]; omega), hf, ← ih]
    congr 1
    rw [Nat.succ_mul]; omega
theorem flat_len {α : Type} {f : α → List Value} {sz : Nat} (hf : ∀ x, (f x).length = sz) : ∀ (l : List α), (l.flatMap f).length = l.length * sz
  | [] => by simp
  | x :: l => by simp only [List.flatMap_cons, List.length_append, List.length_cons, flat_len hf l, hf, Nat.succ_mul]; omega
theorem RdL.of_own {α : Type} {f : α → List Value} {sz : Nat} {w : World} {B : Nat} {e : TypeId} {v : Value} {l : List α} (hf : ∀ x, (f x).length = sz) (h : w.ownsRow B e sz v l.length (l.flatMap f)) : RdL f sz w v l := by
  rcases h.2 with ⟨h1, h2⟩ | ⟨g, cap, cur, h1, hb, hh, hn, hc, hr⟩
  · exact ⟨none, 0, by rw [h1, h2], by omega, by unfold maxLen; omega, fun h0 => by omega⟩
  · refine ⟨_, cap, h1, hn, hc, fun h0 => ⟨g, 0, rfl, (h.lt g (by rw [h1]; rfl)).2, fun j hj i hi => ?_⟩⟩
    have c := h.cells (g := g) (by rw [h1]; rfl)
    have q := flat_at hf l j hj i hi
    have hlt : j * sz + i < (l.flatMap f).length := by
      rw [flat_len hf]
      have : (j + 1) * sz ≤ l.length * sz := Nat.mul_le_mul_right _ hj
      rw [Nat.succ_mul] at this
      omega
    rw [List.getElem?_eq_getElem hlt] at q
    have d := c _ _ (List.getElem?_eq_getElem hlt)
    rw [Addr.add_lit] at d
    rw [← q]
    have e0 : 0 + j * sz + i = 0 + (j * sz + i) := by omega
    rw [e0]
    exact d
theorem cell_nospot {w : World} {a : Addr} {v : Value} (h : w.cell? a = some v) : a = ⟨a.block, a.off, none⟩ := by
  unfold World.cell? at h
  split at h
  · split at h
    · cases h
    · rename_i hs
      cases a with
      | mk b o s => simp at hs ⊢; exact hs
  · cases h
theorem Rdb.slice {P : Program} {w : World} {t e : TypeId} {cs : List Value} {sz : Nat} (ht : P.underlying t = some (.slice e)) (hz : P.cellsOf e = sz) (hp : 0 < sz) (h : Rdb P w t cs) :
    ∃ v ES, cs = [v] ∧ RdL id sz w v ES ∧ ∀ E ∈ ES, Rdb P w e E := by
  obtain ⟨H, enc, base, sp, held, n, x, hx⟩ := h
  rcases DataW.trod_slice ht hx with ⟨h0, _⟩ | ⟨a, len, cap, elems, rest, m, _, h1, _, hb, hl, hm, hlen, hel, _, _⟩
  · exact ⟨_, [], h0, RdL.nil (by unfold maxLen; omega), by simp⟩
  · have each : ∀ i, i < len → ∃ E, w.cells? base (a.add (i * sz)) sz = some E ∧ Rdb P w e E := by
      intro i hi
      have h2 := hel i hi
      rw [List.getElem?_eq_getElem (by omega), hz, Option.bind_eq_some_iff] at h2
      obtain ⟨E, g1, g2⟩ := h2
      exact ⟨E, g1, H, enc, base, sp, held, m, _, g2⟩
    have all : ∀ k, k ≤ len → ∃ ES : List (List Value), ES.length = k ∧ (∀ (j : Nat) (hj : j < ES.length), w.cells? base (a.add (j * sz)) sz = some ES[j]) ∧ ∀ E ∈ ES, Rdb P w e E := by
      intro k
      induction k with
      | zero => intro _; exact ⟨[], rfl, fun j hj => by simp at hj, by simp⟩
      | succ k ih =>
        intro hk
        obtain ⟨ES, q1, q2, q3⟩ := ih (by omega)
        obtain ⟨E, r1, r2⟩ := each k (by omega)
        refine ⟨ES ++ [E], by simp [q1], fun j hj => ?_, fun E' hE => ?_⟩
        · simp at hj
          by_cases hjk : j < ES.length
          · rw [List.getElem_append_left hjk]; exact q2 j hjk
          · have : j = k := by omega
            subst this
            rw [List.getElem_append_right (by omega)]
            simp [q1]; exact r1
        · simp at hE
          rcases hE with hE | rfl
          · exact q3 E' hE
          · exact r2
    obtain ⟨ES, q1, q2, q3⟩ := all len (Nat.le_refl _)
    refine ⟨_, ES, h1, ⟨some a, cap, by rw [q1], by omega, hm, fun h0 => ?_⟩, q3⟩
    have c0 := q2 0 h0
    have s0 := World.cells?_some c0
    have l0 := s0.2.2 0 hp
    rw [List.getElem?_eq_getElem (by rw [s0.2.1]; exact hp)] at l0
    have a0 : (a.add (0 * sz)).add 0 = a := by simp [Addr.add]
    rw [a0] at l0
    have e1 := cell_nospot l0
    have hblk : a.block < w.heap.size := World.cells?_block (w := w) (base := base) (a := a.add (0 * sz)) c0 hp |> fun h => by simpa [Addr.add] using h
    refine ⟨a.block, a.off, by rw [← e1], hblk, fun j hj i hi => ?_⟩
    have s1 := (World.cells?_some (q2 j hj)).2.2 i hi
    rw [e1, Addr.add_lit, Addr.add_lit] at s1
    exact s1
theorem rows_map {α : Type} {f : α → List Value} {Q : α → Prop} : ∀ (ES : List (List Value)), (∀ E ∈ ES, ∃ x : α, E = f x ∧ Q x) → ∃ l : List α, ES = l.map f ∧ ∀ x ∈ l, Q x
  | [], _ => ⟨[], rfl, by simp⟩
  | E :: ES, h => by
    obtain ⟨l, h1, h2⟩ := rows_map ES fun E' hE => h E' (by simp [hE])
    obtain ⟨x, h3, h4⟩ := h E (by simp)
    refine ⟨x :: l, by simp [h1, h3], fun y hy => ?_⟩
    simp at hy
    rcases hy with rfl | hy
    · exact h4
    · exact h2 y hy
theorem RdL.map {α : Type} {f : α → List Value} {sz : Nat} {w : World} {v : Value} {l : List α} (h : RdL id sz w v (l.map f)) : RdL f sz w v l := by
  obtain ⟨a, c, h1, h2, h3, h4⟩ := h
  rw [List.length_map] at h1 h2
  refine ⟨a, c, h1, h2, h3, fun h0 => ?_⟩
  obtain ⟨b, o, g1, g2, g3⟩ := h4 (by simpa using h0)
  exact ⟨b, o, g1, g2, fun j hj i hi => by have := g3 j (by simpa using hj) i hi; simpa using this⟩
/-- A slice of elements that each read as an x. -/
theorem Rdb.list {α : Type} {f : α → List Value} {Q : α → Prop} {P : Program} {w : World} {t e : TypeId} {cs : List Value} {sz : Nat} (ht : P.underlying t = some (.slice e)) (hz : P.cellsOf e = sz) (hp : 0 < sz)
    (he : ∀ E, Rdb P w e E → ∃ x : α, E = f x ∧ Q x) (h : Rdb P w t cs) : ∃ v l, cs = [v] ∧ RdL f sz w v l ∧ ∀ x ∈ l, Q x := by
  obtain ⟨v, ES, h1, h2, h3⟩ := h.slice ht hz hp
  obtain ⟨l, rfl, hl⟩ := rows_map (f := f) (Q := Q) ES fun E hE => he E (h3 E hE)
  exact ⟨v, l, h1, h2.map, hl⟩
def strC (s : ByteArray) : List Value := [.string s]
abbrev RdS (w : World) (v : Value) (l : List ByteArray) : Prop := RdL strC 1 w v l
theorem Arg.int {P : Program} {w : World} {t : TypeId} {v : Value} {k : IntKind} (h : Arg P w t v) (ht : P.underlying t = some (.int k)) : ∃ n : Int, v = .int k n ∧ (Lit.int k n).wf = true := by
  obtain ⟨⟨r, b0, h1⟩, h2⟩ := h
  obtain ⟨n, rfl⟩ := okWide_int ht h1
  obtain ⟨m, h3, h4⟩ := h2.int ht
  simp [Value.cells] at h3
  exact ⟨n, rfl, by rw [h3]; exact h4⟩
theorem Arg.bool {P : Program} {w : World} {t : TypeId} {v : Value} (h : Arg P w t v) (ht : P.underlying t = some .bool) : ∃ b : Bool, v = .bool b := by
  obtain ⟨⟨r, b0, h1⟩, h2⟩ := h
  exact okWide_bool ht h1
theorem Arg.str {P : Program} {w : World} {t : TypeId} {v : Value} (h : Arg P w t v) (ht : P.underlying t = some .string) : ∃ s : ByteArray, v = .string s ∧ s.size ≤ maxLen := by
  obtain ⟨⟨r, b0, h1⟩, h2⟩ := h
  obtain ⟨s, rfl⟩ := okWide_string ht h1
  obtain ⟨m, h3, h4⟩ := h2.str ht
  simp [Value.cells] at h3
  exact ⟨s, rfl, by rw [h3]; exact h4⟩
theorem Arg.list {α : Type} {f : α → List Value} {Q : α → Prop} {P : Program} {w : World} {t e : TypeId} {v : Value} {sz : Nat} (h : Arg P w t v) (ht : P.underlying t = some (.slice e)) (hz : P.cellsOf e = sz) (hp : 0 < sz)
    (he : ∀ E, Rdb P w e E → ∃ x : α, E = f x ∧ Q x) : ∃ l, RdL f sz w v l ∧ ∀ x ∈ l, Q x := by
  obtain ⟨⟨r, b0, h1⟩, h2⟩ := h
  obtain ⟨a, n, c, rfl⟩ := okWide_slice ht h1
  obtain ⟨v, l, h3, h4, h5⟩ := h2.list ht hz hp he
  simp [Value.cells] at h3
  exact ⟨l, by rw [h3]; exact h4, h5⟩
theorem Arg.strs {P : Program} {w : World} {t e : TypeId} {v : Value} (h : Arg P w t v) (ht : P.underlying t = some (.slice e)) (hs : P.underlying e = some .string) (hz : P.cellsOf e = 1) : ∃ l, RdS w v l ∧ ∀ s ∈ l, s.size ≤ maxLen :=
  h.list ht hz (by omega) fun E hE => hE.str hs
theorem Arg.struct {P : Program} {w : World} {t : TypeId} {v : Value} {fs : Array Field} (h : Arg P w t v) (ht : P.underlying t = some (.struct fs)) : ∃ cs : List Value, v = .agg ⟨cs⟩ ∧ Rdb P w t cs := by
  obtain ⟨⟨r, b0, h1⟩, h2⟩ := h
  obtain ⟨⟨cs⟩, rfl, hsz⟩ := okWide_struct ht h1
  exact ⟨cs, rfl, by simpa [Value.cells] using h2⟩
end Go.Proofs.YtcbfhlnnfnpkdaaGreatDoor
namespace Go.Proofs.YtcbfhlnnfnpkdaaGreatDoor
open Go.RowKit
set_option linter.unusedVariables false
set_option linter.unusedSimpArgs false

/-- A fact kept from the walk, that no unfolding shows. -/
structure Kp (p : Prop) : Prop where
  out : p
theorem gcell {W w1 : World} (hb : Below W.heap.size W w1) : (∀ b o, b < W.heap.size → w1.cell? ⟨b, o, none⟩ = W.cell? ⟨b, o, none⟩) ∧ (∀ b o, b < W.heap.size → w1.frozen? ⟨b, o, none⟩ = W.frozen? ⟨b, o, none⟩) :=
  ⟨fun b o h => hb.cell (p := ⟨b, o, none⟩) h, fun b o h => hb.frozen (p := ⟨b, o, none⟩) h⟩
theorem gdrewN (w : World) (n : Nat) : Below w.heap.size w (w.drewN n) := ⟨rfl, rfl, rfl, Nat.le_refl _, fun _ _ => rfl⟩

/-- All is as it was but for the blocks b and g, and what is new. -/
structure Onl (b : Nat) (g : Option Nat) (w w' : World) : Prop where
  os : w'.os = w.os
  tape : w'.tape = w.tape
  output : w'.output = w.output
  size : w.heap.size ≤ w'.heap.size
  block : ∀ k, k < w.heap.size → k ≠ b → g ≠ some k → w'.heap[k]? = w.heap[k]?
theorem Onl.refl (b : Nat) (g : Option Nat) (w : World) : Onl b g w w := ⟨rfl, rfl, rfl, Nat.le_refl _, fun _ _ _ _ => rfl⟩
theorem Onl.of {b : Nat} {g : Option Nat} {w w' : World} (h : Below w.heap.size w w') : Onl b g w w' := ⟨h.os, h.tape, h.output, h.size, fun k hk _ _ => h.block k hk⟩
theorem Onl.drewN {b : Nat} {g : Option Nat} {u w : World} (h : Onl b g u w) (n : Nat) : Onl b g u (w.drewN n) := ⟨h.os, h.tape, h.output, h.size, h.block⟩
theorem Onl.setCell {b : Nat} {g : Option Nat} {u w : World} (h : Onl b g u w) (o : Nat) (v : Value) : Onl b g u (w.setCell ⟨b, o, none⟩ v) :=
  ⟨h.os, h.tape, h.output, by simp [World.setCell]; exact h.size, fun k hk hb hg => (Below.heap_setCell _ _ _ _ hb).trans (h.block k hk hb hg)⟩
/-- Whose row it is: the one it was, or a new one. -/
def Nxt (w : World) (g g' : Option Nat) : Prop := g' = g ∨ ∃ k, g' = some k ∧ w.heap.size ≤ k
theorem Nxt.refl (w : World) (g : Option Nat) : Nxt w g g := .inl rfl
theorem Nxt.trans {w w1 : World} {g g1 g2 : Option Nat} (h : Nxt w g g1) (hs : w.heap.size ≤ w1.heap.size) (h2 : Nxt w1 g1 g2) : Nxt w g g2 := by
  rcases h2 with rfl | ⟨k, rfl, hk⟩
  · exact h
  · exact .inr ⟨k, rfl, Nat.le_trans hs hk⟩
theorem Nxt.ne {w : World} {g g' : Option Nat} (h : Nxt w g g') {k : Nat} (hk : k < w.heap.size) (hg : g ≠ some k) : g' ≠ some k := by
  rcases h with rfl | ⟨j, rfl, hj⟩
  · exact hg
  · intro e; cases e; omega
theorem Onl.trans {b : Nat} {g g1 : Option Nat} {u v w : World} (h : Onl b g u v) (hn : Nxt u g g1) (k : Onl b g1 v w) : Onl b g u w :=
  ⟨k.os.trans h.os, k.tape.trans h.tape, k.output.trans h.output, Nat.le_trans h.size k.size, fun i hi hb hg => (k.block i (Nat.lt_of_lt_of_le hi h.size) hb (hn.ne hi hg)).trans (h.block i hi hb hg)⟩
theorem Onl.below {b B : Nat} {g : Option Nat} {w w' : World} (h : Onl b g w w') (hB : B ≤ b) (hw : B ≤ w.heap.size) (hg : ∀ k, g = some k → B ≤ k) : Below B w w' :=
  ⟨h.os, h.tape, h.output, h.size, fun k hk => h.block k (by omega) (by omega) (fun e => by have := hg k e; omega)⟩
theorem Onl.grown {b : Nat} {g : Option Nat} {u w w' : World} (h : Onl b g u w) (hg : w.grownBy w' g) : Onl b g u w' :=
  ⟨hg.os.trans h.os, hg.tape.trans h.tape, hg.output.trans h.output, Nat.le_trans h.size hg.size, fun k hk hb hn => (hg.block k (Nat.lt_of_lt_of_le hk h.size) (fun e => hn e.symm)).trans (h.block k hk hb hn)⟩
theorem Onl.alloc {b : Nat} {g : Option Nat} {u w : World} (h : Onl b g u w) (o : Obj) : Onl b g u (w.alloc o) :=
  ⟨h.os, h.tape, h.output, by simp; exact Nat.le_succ_of_le h.size, fun k hk hb hn => (Below.heap_alloc w o k (Nat.lt_of_lt_of_le hk h.size)).trans (h.block k hk hb hn)⟩
/-- What lies elsewhere stays. -/
theorem Onl.own {b : Nat} {g : Option Nat} {w w' : World} (h : Onl b g w w') {B : Nat} {e : TypeId} {sz : Nat} {v : Value} {n : Nat} {xs : List Value} (ho : w.ownsRow B e sz v n xs) (h1 : v.ownBlock ≠ some b) (h2 : ∀ k, v.ownBlock = some k → g ≠ some k) : w'.ownsRow B e sz v n xs := by
  refine ⟨ho.1, ?_⟩
  rcases ho.2 with hn | ⟨k, cap, cur, rfl, hb, hk, rest⟩
  · exact .inl hn
  · exact .inr ⟨k, cap, cur, rfl, hb, by rw [h.block k (Array.getElem?_eq_some_iff.1 hk).1 (fun e => h1 (by simp [Value.ownBlock, e])) (h2 k rfl)]; exact hk, rest⟩
theorem Onl.heap {b : Nat} {g : Option Nat} {w w' : World} (h : Onl b g w w') {k : Nat} {o : Obj} (hk : w.heap[k]? = some o) (h1 : k ≠ b) (h2 : g ≠ some k) : w'.heap[k]? = some o :=
  (h.block k (Array.getElem?_eq_some_iff.1 hk).1 h1 h2).trans hk

/-- A block's cells: what they are, that they may be written, what the block is behind a store. -/
theorem blk_cell {w : World} {b i : Nat} {cs : Array Value} {t : TypeId} {v : Value} (h : w.heap[b]? = some (.cells cs t (0, 0))) (hi : cs[i]? = some v) : w.cell? ⟨b, i, none⟩ = some v := by simp [World.cell?, h, hi]
theorem blk_free {w : World} {b i : Nat} {cs : Array Value} {t : TypeId} (h : w.heap[b]? = some (.cells cs t (0, 0))) : w.frozen? ⟨b, i, none⟩ = false := by simp [World.frozen?, h]
theorem blk_lt {w : World} {b : Nat} {o : Obj} (h : w.heap[b]? = some o) : b < w.heap.size := (Array.getElem?_eq_some_iff.1 h).1
theorem blk_set {w : World} {b i : Nat} {cs : Array Value} {t : TypeId} (h : w.heap[b]? = some (.cells cs t (0, 0))) (v : Value) : (w.setCell ⟨b, i, none⟩ v).heap[b]? = some (.cells (cs.setIfInBounds i v) t (0, 0)) := by
  simp [World.setCell, Array.getElem?_modify, h]
theorem blk_set_other {w : World} {b k i : Nat} {o : Obj} (h : w.heap[k]? = some o) (hk : k ≠ b) (v : Value) : (w.setCell ⟨b, i, none⟩ v).heap[k]? = some o := (Below.heap_setCell _ _ _ _ hk).trans h
theorem blk_drewN {w : World} {b : Nat} {o : Obj} (h : w.heap[b]? = some o) (n : Nat) : (w.drewN n).heap[b]? = some o := h
theorem blk_alloc {w : World} {b : Nat} {o o2 : Obj} (h : w.heap[b]? = some o) : (w.alloc o2).heap[b]? = some o := (Below.heap_alloc w o2 b (blk_lt h)).trans h
theorem cells_new (w : World) (cs : Array Value) (t : TypeId) : ∀ j u, cs.toList[j]? = some u → (w.alloc (.cells cs t)).cell? ((⟨w.heap.size, 0, none⟩ : Addr).add j) = some u := by
  intro j u hj
  rw [Addr.add_lit]
  unfold World.cell?
  rw [show (w.alloc (.cells cs t)).heap[(⟨w.heap.size, 0 + j, none⟩ : Addr).block]? = _ from heap_alloc_new w (.cells cs t)]
  simpa using hj
/-- One element more behind a row of the call's own. -/
theorem app_any {P : Program} {wr : World} {ops : Array Oper} {rest : List Oper} {o : Oper} {a : Act} {Q : Exit → Act → World → Prop} (hgd : o.guard = none) (s x : Operand) (t e : TypeId)
    (ho : o.op = .call { callee := .builtin .append, args := #[s, x], argTypes := #[t, t] }) (ht : P.underlying t = some (.slice e)) (z : Value) (sz by_ : Nat)
    (hi : (P.info? e).map (fun i => (i.zero, i.size, i.bytes)) = some (some z, sz, by_)) (hz : z.cells.size = sz) (hsz : 0 < sz) (B : Nat) (v : Value) (n : Nat) (xs : List Value) (hs : a.eval s = v) (hown : wr.ownsRow B e sz v n xs)
    (cs : Array Value) (hcs : cs.size = sz) (hone : ∀ u ∈ cs.toList, u.oneCell' = true) (H : Nat) (hH : wr.heap.size = H) (hx : a.eval x = .slice (some ⟨H, 0, none⟩) 1 1) (hlen : (n + 1) * by_ ≤ 140737488355328) (hm : n + 1 ≤ maxLen) (hB : B ≤ wr.heap.size)
    (h : ∀ g' cap' w', w'.ownsRow B e sz (.slice (some ⟨g', 0, none⟩) (n + 1) cap') (n + 1) (xs ++ cs.toList) → (wr.alloc (.cells cs e)).grownBy w' v.ownBlock → (v.ownBlock = some g' ∨ g' = wr.heap.size + 1) → wpList P ops Q rest (a.put o.dst (.slice (some ⟨g', 0, none⟩) (n + 1) cap')) w') :
    wpList P ops Q (o :: rest) a (wr.alloc (.cells cs e)) := by
  subst hH
  obtain ⟨i0, hi, hz0, hz1, hz2⟩ := info_parts hi
  refine wpList_append_own_at _ hgd s x t ho B e i0 z sz by_ ht hi hz0 hz1 hz2 hz hsz v n xs hs (hown.alloc _) ⟨wr.heap.size, 0, none⟩ 1 1 cs.toList hx (by simp [hcs]) (cells_new _ _ _) hone hm hlen (by simp; omega) ?_
  intro v' w' h1 h2 _ h4
  rcases h1.2 with ⟨_, h0⟩ | ⟨g, cap, cur, hv, r⟩
  · omega
  · subst hv
    refine h g cap w' h1 h2 ?_
    rcases h4 with h4 | h4
    · exact .inl h4.symm
    · right
      simp [Value.ownBlock] at h4
      exact h4
theorem Onl.grown_new {b : Nat} {g row : Option Nat} {u w w' : World} (h : Onl b g u w) (hg : w.grownBy w' row) (hr : ∀ k, row = some k → u.heap.size ≤ k) : Onl b g u w' :=
  ⟨hg.os.trans h.os, hg.tape.trans h.tape, hg.output.trans h.output, Nat.le_trans h.size hg.size, fun k hk hb hn => (hg.block k (Nat.lt_of_lt_of_le hk h.size) (fun e => by have := hr k e.symm; omega)).trans (h.block k hk hb hn)⟩
theorem Onl.then_below {b : Nat} {g : Option Nat} {u w w' : World} (h : Onl b g u w) (hb : Below w.heap.size w w') : Onl b g u w' :=
  ⟨hb.os.trans h.os, hb.tape.trans h.tape, hb.output.trans h.output, Nat.le_trans h.size hb.size, fun k hk h1 h2 => (hb.block k (Nat.lt_of_lt_of_le hk h.size)).trans (h.block k hk h1 h2)⟩
/-- What lies in another place stays: a slice that came in. -/
theorem Onl.rdl {α : Type} {f : α → List Value} {sz b : Nat} {g : Option Nat} {w w' : World} {v : Value} {l : List α} (h : Onl b g w w') (hr : RdL f sz w v l) (h1 : v.ownBlock ≠ some b) (h2 : ∀ k, v.ownBlock = some k → g ≠ some k) : RdL f sz w' v l :=
  hr.stays h.size fun k hk hv => h.block k hk (fun e => h1 (by rw [hv, e])) (h2 k hv)
/-- The slice's form, and its cells while it has any. -/
theorem RdL.strs {w : World} {v : Value} {l : List ByteArray} (h : RdS w v l) : ∃ a c, v = .slice a l.length c ∧ l.length ≤ c ∧ c ≤ maxLen ∧ (0 < l.length → ∃ b o, a = some ⟨b, o, none⟩ ∧ b < w.heap.size ∧ ∀ (j : Nat) (h : j < l.length), w.cell? ⟨b, o + j, none⟩ = some (.string l[j])) := by
  obtain ⟨a, c, h1, h2, h3, h4⟩ := h
  refine ⟨a, c, h1, h2, h3, fun h0 => ?_⟩
  obtain ⟨b, o, g1, g2, g3⟩ := h4 h0
  exact ⟨b, o, g1, g2, fun j hj => by have := g3 j hj 0 (by omega); simpa [strC] using this⟩
/-- All texts, one behind the other. -/
def catL (l : List ByteArray) : List UInt8 := l.flatMap fun s => s.data.toList
theorem catL_snoc (l : List ByteArray) (s : ByteArray) : catL (l ++ [s]) = catL l ++ s.data.toList := by simp [catL]
theorem ba_size' (s : ByteArray) : s.size = s.data.toList.length := by simp
theorem cat_app (a b : ByteArray) : (a ++ b).data.toList = a.data.toList ++ b.data.toList := by simp [ByteArray.data_append]
theorem take_snocB (l : List ByteArray) (k : Nat) (h : k < l.length) : l.take (k + 1) = l.take k ++ [l[k]] := by rw [List.take_succ_eq_append_getElem h]
end Go.Proofs.YtcbfhlnnfnpkdaaGreatDoor
