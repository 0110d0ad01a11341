/- Copies of fields: elements of two cells. · Fields with one more, the document's; with one set, on both sides (layer 10). -/
import Derived.Test.YtcbfhlnnfnpkdaaGreatDoorHde
import Derived.Laws.MakeOwn
import Derived.Laws.CopyRow
import Derived.Laws.OwnMore
namespace Go.Proofs.YtcbfhlnnfnpkdaaGreatDoor
open Go.RowKit
set_option linter.unusedVariables false
set_option linter.unusedSimpArgs false

theorem fvH_at : ∀ (l : List Fld) (j : Nat), (fvH l)[j]? = (l[j / 2]?).bind fun p => (fldC p)[j % 2]?
  | [], j => by simp [fvH]
  | p :: r, 0 => by simp [fvH, fldC]
  | p :: r, 1 => by simp [fvH, fldC]
  | p :: r, j + 2 => by
    have h1 : (j + 2) / 2 = j / 2 + 1 := by omega
    have h2 : (j + 2) % 2 = j % 2 := by omega
    rw [h1, h2, List.getElem?_cons_succ, ← fvH_at r j]
    simp [fvH, fldC]
theorem fvH_len : ∀ l : List Fld, (fvH l).length = l.length * 2
  | [] => rfl
  | p :: r => by
    have := fvH_len r
    simp [fvH, fldC] at this ⊢
    omega
theorem fvH_one : ∀ (l : List Fld), ∀ u ∈ fvH l, u.oneCell' = true := by
  intro l u hu
  obtain ⟨p, hp, hu⟩ := List.mem_flatMap.1 hu
  simp [fldC] at hu
  rcases hu with rfl | rfl <;> rfl
theorem run_copy_many {P : Program} (w : World) (dT sT ty elem : TypeId) (g o dLen dCap sz : Nat) (a : Addr) (sLen sCap : Nat) (cur : Array Value) (t : TypeId) (cs : List Value)
    (hu : P.underlying dT = some (.slice elem)) (hs : (P.info? elem).map (·.size) = some sz)
    (hg : w.heap[g]? = some (.cells cur t (0, 0))) (hn : cs.length = Nat.min sLen dLen * sz)
    (hsrc : ∀ j v, cs[j]? = some v → w.cell? (a.add j) = some v) (hfit : o + cs.length ≤ cur.size) (h1 : ∀ v ∈ cs, v.oneCell' = true) :
    (Builtin.copy_ #[dT, sT] ty #[.slice (some ⟨g, o, none⟩) dLen dCap, .slice (some a) sLen sCap]).run P w =
      .ok (goInt (Nat.min sLen dLen)) (w.setRow g (cur.toList.take o ++ cs ++ cur.toList.drop (o + cs.length)).toArray) := by
  have hl := run_loadCells_list (P := P) w a cs hsrc
  have hst := run_storeCells_at P g o t cs 0 cur w hg (by simpa using hfit) h1
  cases hq : P.info? elem with
  | none => simp [hq] at hs
  | some i =>
    have hi : i.size = sz := by simpa [hq] using hs
    simp [Builtin.copy_, run_underlying hu, Builtin.lenOf, Builtin.firstCells, sizeOf, typeInfo, hq, hi, ← hn, hl, hst]
theorem run_copy_zero {P : Program} (w : World) (dT sT ty elem : TypeId) (d a : Option Addr) (dCap sCap sz : Nat)
    (hu : P.underlying dT = some (.slice elem)) (hs : (P.info? elem).map (·.size) = some sz) :
    (Builtin.copy_ #[dT, sT] ty #[.slice d 0 dCap, .slice a 0 sCap]).run P w = .ok (goInt 0) w := by
  cases hq : P.info? elem with
  | none => simp [hq] at hs
  | some i => cases d <;> cases a <;> simp [Builtin.copy_, run_underlying hu, Builtin.lenOf, Builtin.firstCells, sizeOf, typeInfo, hq, storeCells, loadCells, loadCellsFrom, Result.andThen]
theorem grown_row (w : World) (g : Nat) (cs : Array Value) : w.grownBy (w.setRow g cs) (some g) :=
  ⟨rfl, rfl, rfl, by simp [World.setRow], fun k _ hk => setRow_other w g k cs (fun e => hk (by rw [e]))⟩
theorem run_cpt {P : Program} (w : World) (dT sT ty elem : TypeId) (hu : P.underlying dT = some (.slice elem)) (hsz : (P.info? elem).map (·.size) = some 2)
    (H cap : Nat) (v : Value) (l : List Fld) (hv : RdF w v l) (cur : Array Value) (t : TypeId) (hg : w.heap[H]? = some (.cells cur t (0, 0))) (hfit : l.length * 2 ≤ cur.size) :
    ∃ w', (Builtin.copy_ #[dT, sT] ty #[.slice (some ⟨H, 0, none⟩) l.length cap, v]).run P w = .ok (.int .i64 l.length) w' ∧ w'.heap[H]? = some (.cells (fvH l ++ cur.toList.drop (l.length * 2)).toArray t (0, 0)) ∧ w.grownBy w' (some H) := by
  obtain ⟨ad, c, rfl, hc1, hc2, h4⟩ := hv
  by_cases h0 : 0 < l.length
  · obtain ⟨b, off, rfl, hb, hcell⟩ := h4 h0
    have hrun := run_copy_many (P := P) w dT sT ty elem H 0 l.length cap 2 ⟨b, off, none⟩ l.length c cur t (fvH l) hu hsz hg (by rw [fvH_len]; simp [Nat.min_def]) (fun j u hj => by
      rw [fvH_at] at hj
      obtain ⟨p, hp, hq⟩ := Option.bind_eq_some_iff.1 hj
      obtain ⟨hlt, rfl⟩ := List.getElem?_eq_some_iff.1 hp
      have := hcell (j / 2) hlt (j % 2) (by omega)
      rw [hq] at this
      have e : off + j / 2 * 2 + j % 2 = off + j := by omega
      rw [e] at this
      have e2 : (⟨b, off, none⟩ : Addr).add j = ⟨b, off + j, none⟩ := by cases j <;> simp [Addr.add]
      rw [e2]
      exact this) (by rw [fvH_len]; omega) (fvH_one l)
    have hm : Nat.min l.length l.length = l.length := by simp [Nat.min_def]
    rw [hm, fvH_len, Nat.zero_add, List.take_zero, List.nil_append] at hrun
    exact ⟨_, hrun, setRow_heap w H _ _ t _ hg, grown_row _ _ _⟩
  · have hl : l = [] := List.eq_nil_of_length_eq_zero (by omega)
    subst hl
    exact ⟨w, run_copy_zero (P := P) w dT sT ty elem (some ⟨H, 0, none⟩) ad cap c 2 hu hsz, by simpa [fvH] using hg, ⟨rfl, rfl, rfl, Nat.le_refl _, fun _ _ _ => rfl⟩⟩
theorem make_flds {P : Program} (w : World) (t e : TypeId) (ht : P.underlying t = some (.slice e)) (hi : (P.info? e).map (fun i => (i.zero, i.size, i.bytes)) = some (some (.agg #[.string ByteArray.empty, .string ByteArray.empty]), 2, 32)) (n : Nat) (hn : n ≤ 100000) :
    ∃ row : Array Value, row.size = (n + 1) * 2 ∧ (Instr.makeSlice t (.int .i64 n) (.int .i64 ((n : Int) + 1))).run P w = .ok (.slice (some ⟨w.heap.size, 0, none⟩) n (n + 1)) (w.alloc (.cells row e)) := by
  obtain ⟨i0, hi, hz0, hz1, hz2⟩ := info_parts hi
  have h := run_make (P := P) w t e i0 (.agg #[.string ByteArray.empty, .string ByteArray.empty]) ht hi hz0 .i64 .i64 n ((n : Int) + 1) (by omega) (by omega) (by rw [hz2]; omega) (by omega)
  refine ⟨madeCells (Value.agg #[.string ByteArray.empty, .string ByteArray.empty]).cells ((n + 1) * 2), size_madeCells _ _, ?_⟩
  · rw [h, hz1]
    have e1 : ((n : Int) + 1).toNat = n + 1 := by omega
    have e2 : (n : Int).toNat = n := by omega
    rw [e1, e2]
end Go.Proofs.YtcbfhlnnfnpkdaaGreatDoor
namespace Go.Proofs.YtcbfhlnnfnpkdaaGreatDoor
open Go.RowKit
set_option linter.unusedVariables false
set_option linter.unusedSimpArgs false

theorem run_append_zero {P : Program} {w : World} (base : Nat) (t ty e : TypeId) (i : TypeInfo) (size : Nat) (ht : P.underlying t = some (.slice e)) (hi : P.info? e = some i)
    (v : Value) (n : Nat) (xs : List Value) (hown : w.ownsRow base e size v n xs) (c : Nat) :
    (Builtin.append_ #[t, t] ty #[v, .slice none 0 c]).run P w = .ok v w := by
  rcases hown.2 with ⟨rfl, rfl⟩ | ⟨g, cap, cur, rfl, _, _, hnc, _⟩
  · simp [Builtin.append_, run_underlying ht, sizeOf, typeInfo, hi, Builtin.lenOf, Builtin.firstCells]
  · simp [Builtin.append_, run_underlying ht, sizeOf, typeInfo, hi, Builtin.lenOf, Builtin.firstCells, hnc, storeCells]
theorem app_flds {P : Program} {wr : World} {ops : Array Oper} {rest : List Oper} {o : Oper} {a : Act} {Q : Exit → Act → World → Prop} (hgd : o.guard = none) (s x : Operand) (t e : TypeId)
    (ho : o.op = .call { callee := .builtin .append, args := #[s, x], argTypes := #[t, t] }) (ht : P.underlying t = some (.slice e)) (z : Value)
    (hi : (P.info? e).map (fun i => (i.zero, i.size, i.bytes)) = some (some z, 2, 32)) (hz : z.cells.size = 2) (B : Nat) (v : Value) (n : Nat) (xs : List Value) (hs : a.eval s = v) (hown : wr.ownsRow B e 2 v n xs)
    (vx : Value) (hx : a.eval x = vx) (l : List Fld) (hv : RdF wr vx l) (hlen : (n + l.length) * 32 ≤ 140737488355328) (hm : n + l.length ≤ maxLen) (hB : B ≤ wr.heap.size)
    (h : ∀ v' w', w'.ownsRow B e 2 v' (n + l.length) (xs ++ fvH l) → wr.grownBy w' v.ownBlock → wpList P ops Q rest (a.put o.dst v') w') :
    wpList P ops Q (o :: rest) a wr := by
  obtain ⟨i0, hi, hz0, hz1, hz2⟩ := info_parts hi
  obtain ⟨ad, c, rfl, hc1, hc2, h4⟩ := hv
  cases ad with
  | none =>
    have hl : l = [] := by
      rcases Nat.eq_zero_or_pos l.length with h0 | h0
      · exact List.eq_nil_of_length_eq_zero h0
      · obtain ⟨b, off, hb, _⟩ := h4 h0
        cases hb
    subst hl
    refine wpList_plain hgd fun K hK => ?_
    have hrun := run_append_zero (P := P) (w := wr) B t o.type e i0 2 ht hi v n xs hown c
    have := h v wr (by simpa [fvH] using hown) ⟨rfl, rfl, rfl, Nat.le_refl _, fun _ _ _ => rfl⟩
    unfold Oper.wp
    simp only [List.length_nil] at hx
    simp [execOp, ho, resolve, invoke, builtin, hs, hx, hrun, Result.andThen]
    exact hK _ _ this
  | some ad =>
    refine wpList_append_own _ hgd s x t ho B e i0 z 2 32 ht hi hz0 hz1 hz2 hz (by omega) v n xs hs hown ad l.length c (fvH l) hx (fvH_len l) ?_ (fvH_one l) hm hlen hB fun v' w' g1 g2 _ => h v' w' g1 g2
    intro j u hj
    have h0 : 0 < l.length := by
      have := (List.getElem?_eq_some_iff.1 hj).1
      rw [fvH_len] at this
      omega
    obtain ⟨b, off, hb, hbl, hcell⟩ := h4 h0
    cases hb
    rw [fvH_at] at hj
    obtain ⟨p, hp, hq⟩ := Option.bind_eq_some_iff.1 hj
    obtain ⟨hlt, rfl⟩ := List.getElem?_eq_some_iff.1 hp
    have := hcell (j / 2) hlt (j % 2) (by omega)
    rw [hq] at this
    have e : off + j / 2 * 2 + j % 2 = off + j := by omega
    rw [e] at this
    have e2 : (⟨b, off, none⟩ : Addr).add j = ⟨b, off + j, none⟩ := by cases j <;> simp [Addr.add]
    rw [e2]
    exact this
def setStep (nm y : ByteArray) (s : List Fld × Bool) (p : Fld) : List Fld × Bool := if foldB p.1 nm then (if s.2 then s else (s.1 ++ [(p.1, y)], true)) else (s.1 ++ [p], s.2)
def setL (l : List Fld) (nm y : ByteArray) : List Fld × Bool := l.foldl (setStep nm y) ([], false)
def hSet (l : List Fld) (nm y : ByteArray) : List Fld := if (setL l nm y).2 then (setL l nm y).1 else l ++ [(nm, y)]
theorem setL_take {l : List Fld} {nm y : ByteArray} {k : Nat} (h : k < l.length) : setL (l.take (k + 1)) nm y = setStep nm y (setL (l.take k) nm y) l[k] := by
  unfold setL
  rw [List.take_succ_eq_append_getElem h, List.foldl_append]
  rfl
theorem setGo_len (nm y : ByteArray) : ∀ (l : List Fld) (s : List Fld × Bool), (l.foldl (setStep nm y) s).1.length ≤ s.1.length + l.length
  | [], s => by simp
  | p :: r, s => by
    have h := setGo_len nm y r (setStep nm y s p)
    have h2 : (setStep nm y s p).1.length ≤ s.1.length + 1 := by
      unfold setStep
      split
      · split <;> simp
      · simp
    simp only [List.foldl_cons, List.length_cons]
    omega
theorem setL_len (l : List Fld) (nm y : ByteArray) : (setL l nm y).1.length ≤ l.length := by
  have := setGo_len nm y l ([], false)
  simpa [setL] using this
theorem step_no {nm y x z : ByteArray} {s : List Fld} {b : Bool} (h : foldB x nm = false) : setStep nm y (s, b) (x, z) = (s ++ [(x, z)], b) := by simp [setStep, h]
theorem step_had {nm y x z : ByteArray} {s : List Fld} (h : foldB x nm = true) : setStep nm y (s, true) (x, z) = (s, true) := by simp [setStep, h]
theorem step_new {nm y x z : ByteArray} {s : List Fld} (h : foldB x nm = true) : setStep nm y (s, false) (x, z) = (s ++ [(x, y)], true) := by simp [setStep, h]
end Go.Proofs.YtcbfhlnnfnpkdaaGreatDoor
