/- A list appended behind a row of the call's own, whatever its elements are; its slice may be nil. -/
import Derived.Test.YtpgnekejemockaaGb
namespace Go.Proofs.Ytpgnekejemockaa
open Go.RowKit
set_option linter.unusedVariables false
set_option linter.unusedSimpArgs false

theorem flat_one {α : Type} {f : α → List Value} (h1 : ∀ x u, u ∈ f x → u.oneCell' = true) (l : List α) : ∀ u ∈ l.flatMap f, u.oneCell' = true := by
  intro u hu
  obtain ⟨x, -, hx⟩ := List.mem_flatMap.1 hu
  exact h1 x u hx
theorem run_append_zeroG {P : Program} {w : World} (base : Nat) (t ty e : TypeId) (i : TypeInfo) (size : Nat) (ht : P.underlying t = some (.slice e)) (hi : P.info? e = some i)
    (v : Value) (n : Nat) (xs : List Value) (hown : w.ownsRow base e size v n xs) (c : Nat) :
    (Builtin.append_ #[t, t] ty #[v, .slice none 0 c]).run P w = .ok v w := by
  rcases hown.2 with ⟨rfl, rfl⟩ | ⟨g, cap, cur, rfl, _, _, hnc, _⟩
  · simp [Builtin.append_, run_underlying ht, sizeOf, typeInfo, hi, Builtin.lenOf, Builtin.firstCells]
  · simp [Builtin.append_, run_underlying ht, sizeOf, typeInfo, hi, Builtin.lenOf, Builtin.firstCells, hnc, storeCells]
theorem app_rdl {α : Type} {f : α → List Value} {sz by_ : Nat} (hf : ∀ x, (f x).length = sz) (h1 : ∀ x u, u ∈ f x → u.oneCell' = true) {P : Program} {wr : World} {ops : Array Oper} {rest : List Oper} {o : Oper} {a : Act} {Q : Exit → Act → World → Prop} (hgd : o.guard = none) (s x : Operand) (t e : TypeId)
    (ho : o.op = .call { callee := .builtin .append, args := #[s, x], argTypes := #[t, t] }) (ht : P.underlying t = some (.slice e)) (z : Value)
    (hi : (P.info? e).map (fun i => (i.zero, i.size, i.bytes)) = some (some z, sz, by_)) (hz : z.cells.size = sz) (hsz : 0 < sz) (B : Nat) (v : Value) (n : Nat) (xs : List Value) (hs : a.eval s = v) (hown : wr.ownsRow B e sz v n xs)
    (vx : Value) (hx : a.eval x = vx) (l : List α) (hv : RdL f sz wr vx l) (hlen : (n + l.length) * by_ ≤ 140737488355328) (hm : n + l.length ≤ maxLen) (hB : B ≤ wr.heap.size)
    (h : ∀ v' w', w'.ownsRow B e sz v' (n + l.length) (xs ++ l.flatMap f) → wr.grownBy w' v.ownBlock → wpList P ops Q rest (a.put o.dst v') w') :
    wpList P ops Q (o :: rest) a wr := by
  obtain ⟨i0, hi, hz0, hz1, hz2⟩ := info_parts hi
  obtain ⟨ad, c, rfl, hc1, hc2, h4⟩ := hv
  cases ad with
  | none =>
    have hl : l = [] := by
      rcases Nat.eq_zero_or_pos l.length with h0 | h0
      · exact List.eq_nil_of_length_eq_zero h0
      · obtain ⟨b, off, hb, _⟩ := h4 h0
        cases hb
    subst hl
    refine wpList_plain hgd fun K hK => ?_
    have hrun := run_append_zeroG (P := P) (w := wr) B t o.type e i0 sz ht hi v n xs hown c
    have := h v wr (by simpa using hown) ⟨rfl, rfl, rfl, Nat.le_refl _, fun _ _ _ => rfl⟩
    unfold Oper.wp
    simp only [List.length_nil] at hx
    simp [execOp, ho, resolve, invoke, builtin, hs, hx, hrun, Result.andThen]
    exact hK _ _ this
  | some ad =>
    refine wpList_append_own _ hgd s x t ho B e i0 z sz by_ ht hi hz0 hz1 hz2 hz hsz v n xs hs hown ad l.length c (l.flatMap f) hx (flat_len hf l) ?_ (flat_one h1 l) hm hlen hB fun v' w' g1 g2 _ => h v' w' g1 g2
    intro j u hj
    have hjl : j < l.length * sz := by
      have := (List.getElem?_eq_some_iff.1 hj).1
      rw [flat_len hf] at this
      exact this
    have hd : j / sz < l.length := (Nat.div_lt_iff_lt_mul hsz).2 hjl
    have hmd : j % sz < sz := Nat.mod_lt _ hsz
    have hdm : j / sz * sz + j % sz = j := by rw [Nat.mul_comm]; exact Nat.div_add_mod j sz
    obtain ⟨b, off, hb, hbl, hcell⟩ := h4 (Nat.lt_of_le_of_lt (Nat.zero_le _) hd)
    cases hb
    have q := flat_at hf l (j / sz) hd (j % sz) hmd
    rw [hdm] at q
    rw [q] at hj
    have := hcell (j / sz) hd (j % sz) hmd
    rw [hj] at this
    rw [Addr.add_lit]
    rw [Nat.add_assoc, hdm] at this
    exact this
/-- A literal's row. -/
theorem own_lit (w : World) (e : TypeId) (cs : Array Value) (n sz : Nat) (h : cs.size = n * sz) (hn : n ≤ maxLen) : (w.alloc (.cells cs e)).ownsRow w.heap.size e sz (.slice (some ⟨w.heap.size, 0, none⟩) n n) n cs.toList :=
  ⟨by rw [Array.length_toList, h], .inr ⟨w.heap.size, n, cs, rfl, Nat.le_refl _, heap_alloc_new w _, Nat.le_refl _, hn, h, List.take_of_length_le (by rw [Array.length_toList, h]; exact Nat.le_refl _)⟩⟩
/-- Rows of two types lie in two blocks. -/
theorem own_two {w : World} {B B' : Nat} {e e' : TypeId} (he : e ≠ e') {sz sz' n n' g g' c c' : Nat} {xs xs' : List Value} (h : w.ownsRow B e sz (.slice (some ⟨g, 0, none⟩) n c) n xs) (h' : w.ownsRow B' e' sz' (.slice (some ⟨g', 0, none⟩) n' c') n' xs') : g ≠ g' := by
  rintro rfl
  rcases h.2 with ⟨h2, _⟩ | ⟨k, cap, cur, h2, _, hk, _⟩
  · cases h2
  · cases h2
    rcases h'.2 with ⟨h3, _⟩ | ⟨k', cap', cur', h3, _, hk', _⟩
    · cases h3
    · cases h3
      rw [hk] at hk'
      cases hk'
      exact he rfl
end Go.Proofs.Ytpgnekejemockaa
