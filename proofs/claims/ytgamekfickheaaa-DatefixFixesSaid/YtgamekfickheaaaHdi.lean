/- Fields with one more, the document's; with one set, on both sides (layer 10). -/
import Derived.Test.YtgamekfickheaaaCpt
import Derived.Laws.OwnMore
namespace Go.Proofs.Ytgamekfickheaaa
open Go.RowKit
set_option linter.unusedVariables false
set_option linter.unusedSimpArgs false

theorem run_append_zero {P : Program} {w : World} (base : Nat) (t ty e : TypeId) (i : TypeInfo) (size : Nat) (ht : P.underlying t = some (.slice e)) (hi : P.info? e = some i)
    (v : Value) (n : Nat) (xs : List Value) (hown : w.ownsRow base e size v n xs) (c : Nat) :
    (Builtin.append_ #[t, t] ty #[v, .slice none 0 c]).run P w = .ok v w := by
  rcases hown.2 with ⟨rfl, rfl⟩ | ⟨g, cap, cur, rfl, _, _, hnc, _⟩
  · simp [Builtin.append_, run_underlying ht, sizeOf, typeInfo, hi, Builtin.lenOf, Builtin.firstCells]
  · simp [Builtin.append_, run_underlying ht, sizeOf, typeInfo, hi, Builtin.lenOf, Builtin.firstCells, hnc, storeCells]
theorem app_flds {P : Program} {wr : World} {ops : Array Oper} {rest : List Oper} {o : Oper} {a : Act} {Q : Exit → Act → World → Prop} (hgd : o.guard = none) (s x : Operand) (t e : TypeId)
    (ho : o.op = .call { callee := .builtin .append, args := #[s, x], argTypes := #[t, t] }) (ht : P.underlying t = some (.slice e)) (z : Value)
    (hi : (P.info? e).map (fun i => (i.zero, i.size, i.bytes)) = some (some z, 2, 32)) (hz : z.cells.size = 2) (B : Nat) (v : Value) (n : Nat) (xs : List Value) (hs : a.eval s = v) (hown : wr.ownsRow B e 2 v n xs)
    (vx : Value) (hx : a.eval x = vx) (l : List Fld) (hv : RdF wr vx l) (hlen : (n + l.length) * 32 ≤ 140737488355328) (hm : n + l.length ≤ maxLen) (hB : B ≤ wr.heap.size)
    (h : ∀ v' w', w'.ownsRow B e 2 v' (n + l.length) (xs ++ fvH l) → wr.grownBy w' v.ownBlock → wpList P ops Q rest (a.put o.dst v') w') :
    wpList P ops Q (o :: rest) a wr := by
  obtain ⟨i0, hi, hz0, hz1, hz2⟩ := info_parts hi
  obtain ⟨ad, c, rfl, hc1, hc2, h4⟩ := hv
  cases ad with
  | none =>
    have hl : l = [] := by
      rcases Nat.eq_zero_or_pos l.length with h0 | h0
      · exact List.eq_nil_of_length_eq_zero h0
      · obtain ⟨b, off, hb, _⟩ := h4 h0
        cases hb
    subst hl
    refine wpList_plain hgd fun K hK => ?_
    have hrun := run_append_zero (P := P) (w := wr) B t o.type e i0 2 ht hi v n xs hown c
    have := h v wr (by simpa [fvH] using hown) ⟨rfl, rfl, rfl, Nat.le_refl _, fun _ _ _ => rfl⟩
    unfold Oper.wp
    simp only [List.length_nil] at hx
    simp [execOp, ho, resolve, invoke, builtin, hs, hx, hrun, Result.andThen]
    exact hK _ _ this
  | some ad =>
    refine wpList_append_own _ hgd s x t ho B e i0 z 2 32 ht hi hz0 hz1 hz2 hz (by omega) v n xs hs hown ad l.length c (fvH l) hx (fvH_len l) ?_ (fvH_one l) hm hlen hB fun v' w' g1 g2 _ => h v' w' g1 g2
    intro j u hj
    have h0 : 0 < l.length := by
      have := (List.getElem?_eq_some_iff.1 hj).1
      rw [fvH_len] at this
      omega
    obtain ⟨b, off, hb, hbl, hcell⟩ := h4 h0
    cases hb
    rw [fvH_at] at hj
    obtain ⟨p, hp, hq⟩ := Option.bind_eq_some_iff.1 hj
    obtain ⟨hlt, rfl⟩ := List.getElem?_eq_some_iff.1 hp
    have := hcell (j / 2) hlt (j % 2) (by omega)
    rw [hq] at this
    have e : off + j / 2 * 2 + j % 2 = off + j := by omega
    rw [e] at this
    have e2 : (⟨b, off, none⟩ : Addr).add j = ⟨b, off + j, none⟩ := by cases j <;> simp [Addr.add]
    rw [e2]
    exact this
def setStep (nm y : ByteArray) (s : List Fld × Bool) (p : Fld) : List Fld × Bool := if foldB p.1 nm then (if s.2 then s else (s.1 ++ [(p.1, y)], true)) else (s.1 ++ [p], s.2)
def setL (l : List Fld) (nm y : ByteArray) : List Fld × Bool := l.foldl (setStep nm y) ([], false)
def hSet (l : List Fld) (nm y : ByteArray) : List Fld := if (setL l nm y).2 then (setL l nm y).1 else l ++ [(nm, y)]
theorem setL_take {l : List Fld} {nm y : ByteArray} {k : Nat} (h : k < l.length) : setL (l.take (k + 1)) nm y = setStep nm y (setL (l.take k) nm y) l[k] := by
  unfold setL
  rw [List.take_succ_eq_append_getElem h, List.foldl_append]
  rfl
theorem setGo_len (nm y : ByteArray) : ∀ (l : List Fld) (s : List Fld × Bool), (l.foldl (setStep nm y) s).1.length ≤ s.1.length + l.length
  | [], s => by simp
  | p :: r, s => by
    have h := setGo_len nm y r (setStep nm y s p)
    have h2 : (setStep nm y s p).1.length ≤ s.1.length + 1 := by
      unfold setStep
      split
      · split <;> simp
      · simp
    simp only [List.foldl_cons, List.length_cons]
    omega
theorem setL_len (l : List Fld) (nm y : ByteArray) : (setL l nm y).1.length ≤ l.length := by
  have := setGo_len nm y l ([], false)
  simpa [setL] using this
theorem step_no {nm y x z : ByteArray} {s : List Fld} {b : Bool} (h : foldB x nm = false) : setStep nm y (s, b) (x, z) = (s ++ [(x, z)], b) := by simp [setStep, h]
theorem step_had {nm y x z : ByteArray} {s : List Fld} (h : foldB x nm = true) : setStep nm y (s, true) (x, z) = (s, true) := by simp [setStep, h]
theorem step_new {nm y x z : ByteArray} {s : List Fld} (h : foldB x nm = true) : setStep nm y (s, false) (x, z) = (s ++ [(x, y)], true) := by simp [setStep, h]
end Go.Proofs.Ytgamekfickheaaa
