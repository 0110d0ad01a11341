/- What came in, read as data: integers, bools, texts, structs, slices of these, at any depth; slices as lists. -/
import Derived.WalkKit
import Derived.ProofKit
import Derived.OpenShut
import Derived.ShutString
import Derived.ChangeOld
import Derived.Below
import Derived.Laws.AppendOwn
import Derived.Test.YtahehpgnemanmaaPa
namespace Go.Proofs.Ytahehpgnemanmaa
open Go.ChangeShapes Go.WideShapes Go.ChangeAt Go.RowKit
set_option linter.unusedVariables false
set_option linter.unusedSimpArgs false

/-- The cells cs read as data of the type t. -/
def Rdb (P : Program) (w : World) (t : TypeId) (cs : List Value) : Prop :=
  ∃ (H : Type) (enc : TypeId × Value → H) (base : Nat) (sp : Nat → Bool) (held : Bool) (n : Nat) (x : DataW H × List MemPlace), DataW.trod enc P w base sp held n t cs = some x
/-- The value v came in as data of the type t. -/
def Arg (P : Program) (w : World) (t : TypeId) (v : Value) : Prop := (∃ r b0, Value.okWide P w r b0 t v) ∧ Rdb P w t v.cells.toList
theorem Arg.of {H : Type} {enc : TypeId × Value → H} {P : Program} {w : World} {base : Nat} {sp : Nat → Bool} {held : Bool} {r : Reach} {b0 : Nat} {t : TypeId} {v : Value} {d : DataW H} {p : List MemPlace}
    (hv : Value.okWide P w r b0 t v) (h : DataW.Trod enc P w base sp held t v d p) : Arg P w t v := by
  obtain ⟨n, hn⟩ := h
  exact ⟨⟨r, b0, hv⟩, H, enc, base, sp, held, n, _, hn⟩

theorem Rdb.int {P : Program} {w : World} {t : TypeId} {cs : List Value} {k : IntKind} (ht : P.underlying t = some (.int k)) (h : Rdb P w t cs) : ∃ n : Int, cs = [.int k n] ∧ (Lit.int k n).wf = true := by
  obtain ⟨H, enc, base, sp, held, n, x, hx⟩ := h
  obtain ⟨m, h1, _, h2⟩ := DataW.trod_int ht hx
  exact ⟨m, h1, h2⟩
theorem Rdb.bool {P : Program} {w : World} {t : TypeId} {cs : List Value} (ht : P.underlying t = some .bool) (h : Rdb P w t cs) : ∃ b : Bool, cs = [.bool b] := by
  obtain ⟨H, enc, base, sp, held, n, x, hx⟩ := h
  obtain ⟨b, h1, _⟩ := DataW.trod_bool ht hx
  exact ⟨b, h1⟩
theorem Rdb.str {P : Program} {w : World} {t : TypeId} {cs : List Value} (ht : P.underlying t = some .string) (h : Rdb P w t cs) : ∃ s : ByteArray, cs = [.string s] ∧ s.size ≤ maxLen := by
  obtain ⟨H, enc, base, sp, held, n, x, hx⟩ := h
  obtain ⟨s, h1, _, h2⟩ := DataW.trod_string ht hx
  exact ⟨s, h1, h2⟩
theorem Rdb.struct {P : Program} {w : World} {t : TypeId} {cs : List Value} {fs : Array Field} (ht : P.underlying t = some (.struct fs)) (h : Rdb P w t cs) :
    cs.length = P.cellsOf t ∧ ∀ (i : Nat) (f : Field), fs[i]? = some f → Rdb P w f.type ((cs.drop f.offset).take (P.cellsOf f.type)) := by
  obtain ⟨H, enc, base, sp, held, n, x, hx⟩ := h
  obtain ⟨xs, m, _, _, hlen, hxl, hg⟩ := DataW.trod_struct ht hx
  refine ⟨hlen, fun i f hi => ?_⟩
  have hil : i < xs.length := by rw [hxl]; exact (Array.getElem?_eq_some_iff.1 hi).1
  have h1 := hg i f hi
  rw [List.getElem?_eq_getElem hil] at h1
  exact ⟨H, enc, base, sp, held, m, _, h1⟩

/-- The slice v holds the list l, each element in sz cells. -/
def RdL {α : Type} (f : α → List Value) (sz : Nat) (w : World) (v : Value) (l : List α) : Prop :=
  ∃ a c, v = .slice a l.length c ∧ l.length ≤ c ∧ c ≤ maxLen ∧ (0 < l.length → ∃ b o, a = some ⟨b, o, none⟩ ∧ b < w.heap.size ∧
    ∀ (j : Nat) (h : j < l.length) (i : Nat), i < sz → w.cell? ⟨b, o + j * sz + i, none⟩ = (f l[j])[i]?)
theorem RdL.below {α : Type} {f : α → List Value} {sz : Nat} {w w' : World} {v : Value} {l : List α} (h : RdL f sz w v l) (hb : Below w.heap.size w w') : RdL f sz w' v l := by
  obtain ⟨a, c, h1, h2, h3, h4⟩ := h
  refine ⟨a, c, h1, h2, h3, fun h0 => ?_⟩
  obtain ⟨b, o, g1, g2, g3⟩ := h4 h0
  exact ⟨b, o, g1, Nat.lt_of_lt_of_le g2 hb.size, fun j hj i hi => by rw [hb.cell (p := ⟨b, _, none⟩) g2]; exact g3 j hj i hi⟩
/-- As long as its block stays. -/
theorem RdL.stays {α : Type} {f : α → List Value} {sz : Nat} {w w' : World} {v : Value} {l : List α} (h : RdL f sz w v l) (hs : w.heap.size ≤ w'.heap.size)
    (hb : ∀ k, k < w.heap.size → v.ownBlock = some k → w'.heap[k]? = w.heap[k]?) : RdL f sz w' v l := by
  obtain ⟨a, c, h1, h2, h3, h4⟩ := h
  refine ⟨a, c, h1, h2, h3, fun h0 => ?_⟩
  obtain ⟨b, o, g1, g2, g3⟩ := h4 h0
  have hbb := hb b g2 (by rw [h1, g1]; rfl)
  exact ⟨b, o, g1, Nat.lt_of_lt_of_le g2 hs, fun j hj i hi => by rw [World.cell?_of_block (w := w) hbb]; exact g3 j hj i hi⟩
theorem RdL.nil {α : Type} {f : α → List Value} {sz : Nat} {w : World} {a : Option Addr} {c : Nat} (hc : c ≤ maxLen) : RdL (α := α) f sz w (.slice a 0 c) [] :=
  ⟨a, c, rfl, Nat.zero_le _, hc, fun h => absurd h (by simp)⟩
theorem flat_at {α : Type} {f : α → List Value} {sz : Nat} (hf : ∀ x, (f x).length = sz) : ∀ (l : List α) (j : Nat) (h : j < l.length) (i : Nat), i < sz → (l.flatMap f)[j * sz + i]? = (f l[j])[i]?
  | x :: l, 0, _, i, hi => by
    simp only [List.flatMap_cons, Nat.zero_mul, Nat.zero_add, List.getElem_cons_zero]
    rw [List.getElem?_append_left (by rw [hf]; exact hi)]
  | x :: l, j + 1, h, i, hi => by
    have ih := flat_at hf l j (by simpa using h) i hi
    simp only [List.flatMap_cons, List.getElem_cons_succ]
    rw [List.getElem?_append_right (by rw [hf, Nat.succ_mul]; omega), hf, ← ih]
    congr 1
    rw [Nat.succ_mul]; omega
theorem flat_len {α : Type} {f : α → List Value} {sz : Nat} (hf : ∀ x, (f x).length = sz) : ∀ (l : List α), (l.flatMap f).length = l.length * sz
  | [] => by simp
  | x :: l => by simp only [List.flatMap_cons, List.length_append, List.length_cons, flat_len hf l, hf, Nat.succ_mul]; omega
theorem RdL.of_own {α : Type} {f : α → List Value} {sz : Nat} {w : World} {B : Nat} {e : TypeId} {v : Value} {l : List α} (hf : ∀ x, (f x).length = sz) (h : w.ownsRow B e sz v l.length (l.flatMap f)) : RdL f sz w v l := by
  rcases h.2 with ⟨h1, h2⟩ | ⟨g, cap, cur, h1, hb, hh, hn, hc, hr⟩
  · exact ⟨none, 0, by rw [h1, h2], by omega, by unfold maxLen; omega, fun h0 => by omega⟩
  · refine ⟨_, cap, h1, hn, hc, fun h0 => ⟨g, 0, rfl, (h.lt g (by rw [h1]; rfl)).2, fun j hj i hi => ?_⟩⟩
    have c := h.cells (g := g) (by rw [h1]; rfl)
    have q := flat_at hf l j hj i hi
    have hlt : j * sz + i < (l.flatMap f).length := by
      rw [flat_len hf]
      have : (j + 1) * sz ≤ l.length * sz := Nat.mul_le_mul_right _ hj
      rw [Nat.succ_mul] at this
      omega
    rw [List.getElem?_eq_getElem hlt] at q
    have d := c _ _ (List.getElem?_eq_getElem hlt)
    rw [Addr.add_lit] at d
    rw [← q]
    have e0 : 0 + j * sz + i = 0 + (j * sz + i) := by omega
    rw [e0]
    exact d
theorem cell_nospot {w : World} {a : Addr} {v : Value} (h : w.cell? a = some v) : a = ⟨a.block, a.off, none⟩ := by
  unfold World.cell? at h
  split at h
  · split at h
    · cases h
    · rename_i hs
      cases a with
      | mk b o s => simp at hs ⊢; exact hs
  · cases h
theorem Rdb.slice {P : Program} {w : World} {t e : TypeId} {cs : List Value} {sz : Nat} (ht : P.underlying t = some (.slice e)) (hz : P.cellsOf e = sz) (hp : 0 < sz) (h : Rdb P w t cs) :
    ∃ v ES, cs = [v] ∧ RdL id sz w v ES ∧ ∀ E ∈ ES, Rdb P w e E := by
  obtain ⟨H, enc, base, sp, held, n, x, hx⟩ := h
  rcases DataW.trod_slice ht hx with ⟨h0, _⟩ | ⟨a, len, cap, elems, rest, m, _, h1, _, hb, hl, hm, hlen, hel, _, _⟩
  · exact ⟨_, [], h0, RdL.nil (by unfold maxLen; omega), by simp⟩
  · have each : ∀ i, i < len → ∃ E, w.cells? base (a.add (i * sz)) sz = some E ∧ Rdb P w e E := by
      intro i hi
      have h2 := hel i hi
      rw [List.getElem?_eq_getElem (by omega), hz, Option.bind_eq_some_iff] at h2
      obtain ⟨E, g1, g2⟩ := h2
      exact ⟨E, g1, H, enc, base, sp, held, m, _, g2⟩
    have all : ∀ k, k ≤ len → ∃ ES : List (List Value), ES.length = k ∧ (∀ (j : Nat) (hj : j < ES.length), w.cells? base (a.add (j * sz)) sz = some ES[j]) ∧ ∀ E ∈ ES, Rdb P w e E := by
      intro k
      induction k with
      | zero => intro _; exact ⟨[], rfl, fun j hj => by simp at hj, by simp⟩
      | succ k ih =>
        intro hk
        obtain ⟨ES, q1, q2, q3⟩ := ih (by omega)
        obtain ⟨E, r1, r2⟩ := each k (by omega)
        refine ⟨ES ++ [E], by simp [q1], fun j hj => ?_, fun E' hE => ?_⟩
        · simp at hj
          by_cases hjk : j < ES.length
          · rw [List.getElem_append_left hjk]; exact q2 j hjk
          · have : j = k := by omega
            subst this
            rw [List.getElem_append_right (by omega)]
            simp [q1]; exact r1
        · simp at hE
          rcases hE with hE | rfl
          · exact q3 E' hE
          · exact r2
    obtain ⟨ES, q1, q2, q3⟩ := all len (Nat.le_refl _)
    refine ⟨_, ES, h1, ⟨some a, cap, by rw [q1], by omega, hm, fun h0 => ?_⟩, q3⟩
    have c0 := q2 0 h0
    have s0 := World.cells?_some c0
    have l0 := s0.2.2 0 hp
    rw [List.getElem?_eq_getElem (by rw [s0.2.1]; exact hp)] at l0
    have a0 : (a.add (0 * sz)).add 0 = a := by simp [Addr.add]
    rw [a0] at l0
    have e1 := cell_nospot l0
    have hblk : a.block < w.heap.size := World.cells?_block (w := w) (base := base) (a := a.add (0 * sz)) c0 hp |> fun h => by simpa [Addr.add] using h
    refine ⟨a.block, a.off, by rw [← e1], hblk, fun j hj i hi => ?_⟩
    have s1 := (World.cells?_some (q2 j hj)).2.2 i hi
    rw [e1, Addr.add_lit, Addr.add_lit] at s1
    exact s1
theorem rows_map {α : Type} {f : α → List Value} {Q : α → Prop} : ∀ (ES : List (List Value)), (∀ E ∈ ES, ∃ x : α, E = f x ∧ Q x) → ∃ l : List α, ES = l.map f ∧ ∀ x ∈ l, Q x
  | [], _ => ⟨[], rfl, by simp⟩
  | E :: ES, h => by
    obtain ⟨l, h1, h2⟩ := rows_map ES fun E' hE => h E' (by simp [hE])
    obtain ⟨x, h3, h4⟩ := h E (by simp)
    refine ⟨x :: l, by simp [h1, h3], fun y hy => ?_⟩
    simp at hy
    rcases hy with rfl | hy
    · exact h4
    · exact h2 y hy
theorem RdL.map {α : Type} {f : α → List Value} {sz : Nat} {w : World} {v : Value} {l : List α} (h : RdL id sz w v (l.map f)) : RdL f sz w v l := by
  obtain ⟨a, c, h1, h2, h3, h4⟩ := h
  rw [List.length_map] at h1 h2
  refine ⟨a, c, h1, h2, h3, fun h0 => ?_⟩
  obtain ⟨b, o, g1, g2, g3⟩ := h4 (by simpa using h0)
  exact ⟨b, o, g1, g2, fun j hj i hi => by have := g3 j (by simpa using hj) i hi; simpa using this⟩
/-- A slice of elements that each read as an x. -/
theorem Rdb.list {α : Type} {f : α → List Value} {Q : α → Prop} {P : Program} {w : World} {t e : TypeId} {cs : List Value} {sz : Nat} (ht : P.underlying t = some (.slice e)) (hz : P.cellsOf e = sz) (hp : 0 < sz)
    (he : ∀ E, Rdb P w e E → ∃ x : α, E = f x ∧ Q x) (h : Rdb P w t cs) : ∃ v l, cs = [v] ∧ RdL f sz w v l ∧ ∀ x ∈ l, Q x := by
  obtain ⟨v, ES, h1, h2, h3⟩ := h.slice ht hz hp
  obtain ⟨l, rfl, hl⟩ := rows_map (f := f) (Q := Q) ES fun E hE => he E (h3 E hE)
  exact ⟨v, l, h1, h2.map, hl⟩
def strC (s : ByteArray) : List Value := [.string s]
abbrev RdS (w : World) (v : Value) (l : List ByteArray) : Prop := RdL strC 1 w v l
theorem Arg.int {P : Program} {w : World} {t : TypeId} {v : Value} {k : IntKind} (h : Arg P w t v) (ht : P.underlying t = some (.int k)) : ∃ n : Int, v = .int k n ∧ (Lit.int k n).wf = true := by
  obtain ⟨⟨r, b0, h1⟩, h2⟩ := h
  obtain ⟨n, rfl⟩ := okWide_int ht h1
  obtain ⟨m, h3, h4⟩ := h2.int ht
  simp [Value.cells] at h3
  exact ⟨n, rfl, by rw [h3]; exact h4⟩
theorem Arg.bool {P : Program} {w : World} {t : TypeId} {v : Value} (h : Arg P w t v) (ht : P.underlying t = some .bool) : ∃ b : Bool, v = .bool b := by
  obtain ⟨⟨r, b0, h1⟩, h2⟩ := h
  exact okWide_bool ht h1
theorem Arg.str {P : Program} {w : World} {t : TypeId} {v : Value} (h : Arg P w t v) (ht : P.underlying t = some .string) : ∃ s : ByteArray, v = .string s ∧ s.size ≤ maxLen := by
  obtain ⟨⟨r, b0, h1⟩, h2⟩ := h
  obtain ⟨s, rfl⟩ := okWide_string ht h1
  obtain ⟨m, h3, h4⟩ := h2.str ht
  simp [Value.cells] at h3
  exact ⟨s, rfl, by rw [h3]; exact h4⟩
theorem Arg.list {α : Type} {f : α → List Value} {Q : α → Prop} {P : Program} {w : World} {t e : TypeId} {v : Value} {sz : Nat} (h : Arg P w t v) (ht : P.underlying t = some (.slice e)) (hz : P.cellsOf e = sz) (hp : 0 < sz)
    (he : ∀ E, Rdb P w e E → ∃ x : α, E = f x ∧ Q x) : ∃ l, RdL f sz w v l ∧ ∀ x ∈ l, Q x := by
  obtain ⟨⟨r, b0, h1⟩, h2⟩ := h
  obtain ⟨a, n, c, rfl⟩ := okWide_slice ht h1
  obtain ⟨v, l, h3, h4, h5⟩ := h2.list ht hz hp he
  simp [Value.cells] at h3
  exact ⟨l, by rw [h3]; exact h4, h5⟩
theorem Arg.strs {P : Program} {w : World} {t e : TypeId} {v : Value} (h : Arg P w t v) (ht : P.underlying t = some (.slice e)) (hs : P.underlying e = some .string) (hz : P.cellsOf e = 1) : ∃ l, RdS w v l ∧ ∀ s ∈ l, s.size ≤ maxLen :=
  h.list ht hz (by omega) fun E hE => hE.str hs
theorem Arg.struct {P : Program} {w : World} {t : TypeId} {v : Value} {fs : Array Field} (h : Arg P w t v) (ht : P.underlying t = some (.struct fs)) : ∃ cs : List Value, v = .agg ⟨cs⟩ ∧ Rdb P w t cs := by
  obtain ⟨⟨r, b0, h1⟩, h2⟩ := h
  obtain ⟨⟨cs⟩, rfl, hsz⟩ := okWide_struct ht h1
  exact ⟨cs, rfl, by simpa [Value.cells] using h2⟩
end Go.Proofs.Ytahehpgnemanmaa
