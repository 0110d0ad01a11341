/- Copies of octets into a row of the call's own; a row made. -/
import Derived.Test.YtpgnekejemockaaQua
import Derived.Laws.CopyOwn
import Derived.Laws.MakeOwn
import Derived.Lib.BufferWrite
namespace Go.Proofs.Ytpgnekejemockaa
open Go.RowKit
set_option linter.unusedVariables false
set_option linter.unusedSimpArgs false

theorem bv_spl (L : List UInt8) (o : Nat) (c : List UInt8) : (bv L).take o ++ (bv c ++ (bv L).drop (o + c.length)) = bv (spl L o c) := by
  simp [bv, spl]
theorem bv_one (l : List UInt8) : ∀ u ∈ bv l, u.oneCell' = true := by
  intro u hu
  simp [bv] at hu
  obtain ⟨c, _, rfl⟩ := hu
  rfl
theorem run_copy_str {P : Program} (w : World) (dT sT ty elem : TypeId) (g o dLen dCap : Nat) (s : ByteArray) (L : List UInt8) (t : TypeId)
    (hu : P.underlying dT = some (.slice elem)) (hs : (P.info? elem).map (·.size) = some 1) (hg : w.heap[g]? = some (.cells (bv L).toArray t (0, 0))) (hfit : o + min s.size dLen ≤ L.length) :
    (Builtin.copy_ #[dT, sT] ty #[.slice (some ⟨g, o, none⟩) dLen dCap, .string s]).run P w =
      .ok (goInt (min s.size dLen : Nat)) (w.setRow g (bv (spl L o (s.data.toList.take (min s.size dLen)))).toArray) := by
  have hl : (bv (s.data.toList.take (min s.size dLen))).length = min s.size dLen := by
    rw [bv_length, List.length_take, ← ba_size']; omega
  have hst := run_storeCells_at P g o t (bv (s.data.toList.take (min s.size dLen))) 0 (bv L).toArray w hg (by rw [hl]; simp [bv_length]; omega) (bv_one _)
  have htk : List.take (min s.size dLen) (List.map (fun b : UInt8 => Value.int IntKind.u8 (b.toNat : Int)) s.data.toList) = bv (s.data.toList.take (min s.size dLen)) := by
    rw [← List.map_take]; rfl
  have hsp := bv_spl L o (s.data.toList.take (min s.size dLen))
  have hl2 : (s.data.toList.take (min s.size dLen)).length = min s.size dLen := by rw [← bv_length]; exact hl
  rw [hl2] at hsp
  rw [hl] at hst
  simp only [Nat.add_zero] at hst
  have hmin : Nat.min s.size dLen = min s.size dLen := rfl
  cases hq : P.info? elem with
  | none => simp [hq] at hs
  | some i =>
    simp [Builtin.copy_, run_underlying hu, Builtin.lenOf, Builtin.firstCells, sizeOf, typeInfo, hq, hmin]
    rw [htk, hst]
    simp [Result.andThen]
    rw [← hsp]
theorem grown_setRow (w : World) (g : Nat) (cs : Array Value) : w.grownBy (w.setRow g cs) (some g) :=
  ⟨rfl, rfl, rfl, by simp [World.setRow], fun k _ hk => setRow_other w g k cs (fun e => hk (by rw [e]))⟩
theorem cpy_str {P : Program} {w : World} {ops : Array Oper} {rest : List Oper} {o : Oper} {a : Act} {Q : Exit → Act → World → Prop} (hgd : o.guard = none) (d s : Operand) (dT sT : TypeId)
    (ho : o.op = .call { callee := .builtin .copy, args := #[d, s], argTypes := #[dT, sT] }) (elem : TypeId) (hu : P.underlying dT = some (.slice elem)) (hsz : (P.info? elem).map (·.size) = some 1)
    (g off dLen dCap : Nat) (hd : a.eval d = .slice (some ⟨g, off, none⟩) dLen dCap) (x : ByteArray) (hs : a.eval s = .string x) (L : List UInt8) (t : TypeId) (hg : w.heap[g]? = some (.cells (bv L).toArray t (0, 0)))
    (n : Nat) (hn : n = min x.size dLen) (hfit : off + n ≤ L.length)
    (h : ∀ w', w'.heap[g]? = some (.cells (bv (spl L off (x.data.toList.take n))).toArray t (0, 0)) → w.grownBy w' (some g) → wpList P ops Q rest (a.put o.dst (.int .i64 n)) w') : wpList P ops Q (o :: rest) a w := by
  subst hn
  refine wpList_plain hgd fun K hK => ?_
  have hrun := run_copy_str (P := P) w dT sT o.type elem g off dLen dCap x L t hu hsz hg hfit
  unfold Oper.wp
  simp [execOp, ho, resolve, invoke, builtin, hd, hs, hrun, Result.andThen]
  exact hK _ _ (h _ (setRow_heap w g _ _ t _ hg) (grown_setRow _ _ _))
theorem cpy_row {P : Program} {w : World} {ops : Array Oper} {rest : List Oper} {o : Oper} {a : Act} {Q : Exit → Act → World → Prop} (hgd : o.guard = none) (d s : Operand) (dT sT : TypeId)
    (ho : o.op = .call { callee := .builtin .copy, args := #[d, s], argTypes := #[dT, sT] }) (elem : TypeId) (hu : P.underlying dT = some (.slice elem)) (hsz : (P.info? elem).map (·.size) = some 1)
    (dp : Option Addr) (g off dLen dCap : Nat) (hd : a.eval d = .slice dp dLen dCap) (sp : Option Addr) (g2 o2 sLen sCap : Nat) (hs : a.eval s = .slice sp sLen sCap) (L : List UInt8) (t : TypeId) (hg : w.heap[g]? = some (.cells (bv L).toArray t (0, 0)))
    (L2 : List UInt8) (t2 : TypeId) (hg2 : w.heap[g2]? = some (.cells (bv L2).toArray t2 (0, 0))) (n : Nat) (hn : n = min sLen dLen) (hp : 0 < n → dp = some ⟨g, off, none⟩ ∧ sp = some ⟨g2, o2, none⟩) (hfit : off + n ≤ L.length) (hfit2 : o2 + n ≤ L2.length)
    (h : ∀ w', w'.heap[g]? = some (.cells (bv (spl L off ((L2.drop o2).take n))).toArray t (0, 0)) → w.grownBy w' (some g) → wpList P ops Q rest (a.put o.dst (.int .i64 n)) w') : wpList P ops Q (o :: rest) a w := by
  subst hn
  have hl : ((L2.drop o2).take (min sLen dLen)).length = min sLen dLen := by rw [List.length_take, List.length_drop]; omega
  by_cases h0 : min sLen dLen = 0
  · refine wpList_copy_nothing hgd d s dT sT ho elem hu hsz dp sp dLen dCap sLen sCap hd hs h0 ?_
    have := h w (by rw [h0]; simp [spl]; exact hg) ⟨rfl, rfl, rfl, Nat.le_refl _, fun _ _ _ => rfl⟩
    rw [h0] at this
    exact this
  · obtain ⟨rfl, rfl⟩ := hp (by omega)
    have e1 : (bv ((L2.drop o2).take (min sLen dLen))).length = min sLen dLen := by rw [bv_length, hl]
    have key := wpList_copy_own (P := P) (w := w) (ops := ops) (rest := rest) (o := o) (a := a) (Q := Q) hgd d s dT sT ho elem hu hsz g off dLen dCap ⟨g2, o2, none⟩ sLen sCap hd hs (bv L).toArray t hg (bv ((L2.drop o2).take (min sLen dLen))) e1
      (fun j v hj => by
        have hjl : j < min sLen dLen := by
          have := (List.getElem?_eq_some_iff.1 hj).1
          omega
        rw [Addr.add_lit]
        refine blk_cell hg2 ?_
        simp only [List.getElem?_toArray]
        simp only [bv, List.getElem?_map, List.getElem?_take_of_lt hjl, List.getElem?_drop] at hj ⊢
        exact hj) (by rw [e1]; simp [bv_length]; omega) (bv_one _)
    refine key ?_
    rw [e1]
    refine h _ ?_ (grown_setRow _ _ _)
    have hsp := bv_spl L off ((L2.drop o2).take (min sLen dLen))
    rw [hl] at hsp
    rw [setRow_heap w g _ _ t _ hg, ← hsp]
theorem made_bv (n : Nat) : madeCells #[.int .u8 0] n = (bv (List.replicate n 0)).toArray := by
  apply Array.ext
  · simp [madeCells, bv]
  · intro i h1 h2
    simp [madeCells, bv]
    have : i % 1 = 0 := by omega
    simp [this]
theorem make_u8 {P : Program} (w : World) (t e : TypeId) (ht : P.underlying t = some (.slice e)) (hi : (P.info? e).map (fun i => (i.zero, i.size, i.bytes)) = some (some (.int .u8 0), 1, 1)) (n : Nat) (hn : n ≤ 281474976710656) :
    (Instr.makeSlice t (.int .i64 n) (.int .i64 n)).run P w = .ok (.slice (some ⟨w.heap.size, 0, none⟩) n n) (w.alloc (.cells (bv (List.replicate n 0)).toArray e)) := by
  obtain ⟨i0, hi, hz0, hz1, hz2⟩ := info_parts hi
  have h := run_make (P := P) w t e i0 (.int .u8 0) ht hi hz0 .i64 .i64 n n (by omega) (by omega) (by rw [hz2]; omega) (by omega)
  rw [h, hz1]
  simp only [Int.toNat_natCast, Nat.mul_one]
  rw [← made_bv]
  rfl
end Go.Proofs.Ytpgnekejemockaa
