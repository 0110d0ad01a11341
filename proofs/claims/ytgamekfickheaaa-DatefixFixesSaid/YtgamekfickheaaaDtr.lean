/- Dates of fields (layer 6): what the document's Form keeps (bin/mkdtr.py). -/
import Derived.Test.YtgamekfickheaaaDtq
import Derived.BigRegion
namespace Go.Proofs.Ytgamekfickheaaa
open Go.RowKit
set_option linter.unusedVariables false
set_option linter.unusedSimpArgs false

def dC (y m d h i s : Int) : Array Value := #[.int .i64 y, .int .i64 m, .int .i64 d, .int .i64 h, .int .i64 i, .int .i64 s]
/-- The result's cells, still blank, and the date that is being made. -/
structure DF (w : World) (y m d h i s : Int) (W : World) : Prop where
  res : W.heap[w.heap.size]? = some (.cells #[.int .i64 0, .int .i64 0, .int .i64 0, .int .i64 0, .int .i64 0, .int .i64 0] 98 (0, 0))
  box : W.heap[w.heap.size + 1]? = some (.cells #[.int .i64 y, .int .i64 m, .int .i64 d, .int .i64 h, .int .i64 i, .int .i64 s] 98 (0, 0))
  bel : Below w.heap.size w W
theorem DF.below {w W W' : World} {y m d h i s : Int} (H : DF w y m d h i s W) (hb : Below W.heap.size W W') : DF w y m d h i s W' :=
  ⟨(hb.block _ (blk_lt H.res)).trans H.res, (hb.block _ (blk_lt H.box)).trans H.box, H.bel.trans (hb.mono H.bel.size)⟩
theorem DF.new (w : World) : DF w 0 0 0 0 0 0 ((w.alloc (.cells #[.int .i64 0, .int .i64 0, .int .i64 0, .int .i64 0, .int .i64 0, .int .i64 0] 98)).alloc (.cells #[.int .i64 0, .int .i64 0, .int .i64 0, .int .i64 0, .int .i64 0, .int .i64 0] 98)) := by
  refine ⟨blk_alloc (heap_alloc_new w _), ?_, ((Below.refl w.heap.size w).alloc (Nat.le_refl _) _).alloc (by simp) _⟩
  have := heap_alloc_new (w.alloc (.cells #[.int .i64 0, .int .i64 0, .int .i64 0, .int .i64 0, .int .i64 0, .int .i64 0] 98)) (.cells #[.int .i64 0, .int .i64 0, .int .i64 0, .int .i64 0, .int .i64 0, .int .i64 0] 98)
  rwa [World.size_alloc] at this
theorem DF.setY {w W : World} {y m d h i s : Int} (H : DF w y m d h i s W) (v : Int) : DF w v m d h i s (W.setCell ⟨w.heap.size + 1, 0, none⟩ (.int .i64 v)) :=
  ⟨blk_set_other H.res (by omega) _, blk_set H.box _, H.bel.setCell (p := ⟨w.heap.size + 1, 0, none⟩) (Nat.le_succ _) _⟩
theorem DF.setM {w W : World} {y m d h i s : Int} (H : DF w y m d h i s W) (v : Int) : DF w y v d h i s (W.setCell ⟨w.heap.size + 1, 1, none⟩ (.int .i64 v)) :=
  ⟨blk_set_other H.res (by omega) _, blk_set H.box _, H.bel.setCell (p := ⟨w.heap.size + 1, 1, none⟩) (Nat.le_succ _) _⟩
theorem DF.setD {w W : World} {y m d h i s : Int} (H : DF w y m d h i s W) (v : Int) : DF w y m v h i s (W.setCell ⟨w.heap.size + 1, 2, none⟩ (.int .i64 v)) :=
  ⟨blk_set_other H.res (by omega) _, blk_set H.box _, H.bel.setCell (p := ⟨w.heap.size + 1, 2, none⟩) (Nat.le_succ _) _⟩
/-- The result's cells, written. -/
def dSet (w : World) (a b c d e f : Int) (W : World) : World := (((((W.setCell ⟨w.heap.size, 0, none⟩ (.int .i64 a)).setCell ⟨w.heap.size, 1, none⟩ (.int .i64 b)).setCell ⟨w.heap.size, 2, none⟩ (.int .i64 c)).setCell ⟨w.heap.size, 3, none⟩ (.int .i64 d)).setCell ⟨w.heap.size, 4, none⟩ (.int .i64 e)).setCell ⟨w.heap.size, 5, none⟩ (.int .i64 f)
theorem DF.done {w W : World} {y m d h i s : Int} (H : DF w y m d h i s W) (a b c e f g : Int) : (dSet w a b c e f g W).heap[w.heap.size]? = some (.cells #[.int .i64 a, .int .i64 b, .int .i64 c, .int .i64 e, .int .i64 f, .int .i64 g] 98 (0, 0)) ∧ Below w.heap.size w (dSet w a b c e f g W) :=
  ⟨blk_set (blk_set (blk_set (blk_set (blk_set (blk_set H.res _) _) _) _) _) _, (((((H.bel.setCell (p := ⟨w.heap.size, 0, none⟩) (Nat.le_refl _) _).setCell (p := ⟨w.heap.size, 1, none⟩) (Nat.le_refl _) _).setCell (p := ⟨w.heap.size, 2, none⟩) (Nat.le_refl _) _).setCell (p := ⟨w.heap.size, 3, none⟩) (Nat.le_refl _) _).setCell (p := ⟨w.heap.size, 4, none⟩) (Nat.le_refl _) _).setCell (p := ⟨w.heap.size, 5, none⟩) (Nat.le_refl _) _⟩
/-- The weekday found among the first k. -/
def wkU (tx : ByteArray) (k : Nat) : Int := match (List.range k).find? (fun i => decide (tx.extract 0 3 = ofL (wd3 i))) with | some j => (j : Int) | none => -1
theorem wkU_all (tx : ByteArray) : wkU tx 7 = wkD tx := rfl
theorem wd3_one : ∀ k, k < 7 → ∀ j, j < k → ¬ wd3 j = wd3 k := by decide +kernel
theorem ofL_inj {a b : List UInt8} (h : ofL a = ofL b) : a = b := by
  have := congrArg (fun x => x.data.toList) h
  simpa [ofL] using this
theorem wkU_hit {tx : ByteArray} {k : Nat} (hk : k < 7) (h : tx.extract 0 3 = ofL (wd3 k)) : wkU tx (k + 1) = (k : Int) := by
  unfold wkU
  rw [find_hit (P := fun i => decide (tx.extract 0 3 = ofL (wd3 i))) (Nat.lt_succ_self k) (decide_eq_true h) (fun j hj => decide_eq_false fun h2 => wd3_one k hk j hj (ofL_inj (h2.symm.trans h)))]
theorem wkU_miss {tx : ByteArray} {k : Nat} (h : ¬ tx.extract 0 3 = ofL (wd3 k)) : wkU tx (k + 1) = wkU tx k := by
  unfold wkU
  rw [List.range_succ, List.find?_append]
  have : ([k].find? fun i => decide (tx.extract 0 3 = ofL (wd3 i))) = none := by simp [h]
  rw [this]
  cases (List.range k).find? (fun i => decide (tx.extract 0 3 = ofL (wd3 i))) <;> rfl
theorem wkU_range (tx : ByteArray) (k : Nat) (hk : k ≤ 7) : -1 ≤ wkU tx k ∧ wkU tx k ≤ 7 := by
  unfold wkU
  split
  · rename_i j h
    have := List.mem_of_find?_eq_some h
    have : j < k := by simpa using this
    omega
  · omega
/-- The result's cells, still blank, and the date that is told. -/
structure SH (w : World) (sh : Nat) (y m d h i s : Int) (W : World) : Prop where
  res : W.heap[w.heap.size]? = some (.cells #[.int .i64 0, .int .i64 0, .int .i64 0, .int .i64 0, .int .i64 0, .int .i64 0] 98 (0, 0))
  box : W.heap[sh]? = some (.cells #[.int .i64 y, .int .i64 m, .int .i64 d, .int .i64 h, .int .i64 i, .int .i64 s] 98 (0, 0))
  bel : Below w.heap.size w W
  lt : w.heap.size < sh
theorem SH.done {w W : World} {sh : Nat} {y m d h i s : Int} (H : SH w sh y m d h i s W) (a b c e f g : Int) : (dSet w a b c e f g W).heap[w.heap.size]? = some (.cells #[.int .i64 a, .int .i64 b, .int .i64 c, .int .i64 e, .int .i64 f, .int .i64 g] 98 (0, 0)) ∧ Below w.heap.size w (dSet w a b c e f g W) :=
  ⟨blk_set (blk_set (blk_set (blk_set (blk_set (blk_set H.res _) _) _) _) _) _, (((((H.bel.setCell (p := ⟨w.heap.size, 0, none⟩) (Nat.le_refl _) _).setCell (p := ⟨w.heap.size, 1, none⟩) (Nat.le_refl _) _).setCell (p := ⟨w.heap.size, 2, none⟩) (Nat.le_refl _) _).setCell (p := ⟨w.heap.size, 3, none⟩) (Nat.le_refl _) _).setCell (p := ⟨w.heap.size, 4, none⟩) (Nat.le_refl _) _).setCell (p := ⟨w.heap.size, 5, none⟩) (Nat.le_refl _) _⟩
theorem blk_drew6 {w : World} {b : Nat} {o : Obj} (h : w.heap[b]? = some o) : w.drew.heap[b]? = some o := h
theorem SH.drew {w W : World} {sh : Nat} {y m d h i s : Int} (H : SH w sh y m d h i s W) : SH w sh y m d h i s W.drew := ⟨H.res, H.box, H.bel.drew, H.lt⟩
theorem SH.fin {w W : World} {sh : Nat} {y m d h i s : Int} (H : SH w sh y m d h i s W) (a b c e f g : Int) : (dSet w a b c e f g W).drew.heap[w.heap.size]? = some (.cells #[.int .i64 a, .int .i64 b, .int .i64 c, .int .i64 e, .int .i64 f, .int .i64 g] 98 (0, 0)) ∧ Below w.heap.size w (dSet w a b c e f g W).drew := ⟨blk_drew6 (H.done a b c e f g).1, (H.done a b c e f g).2.drew⟩
theorem SH.new {w W : World} {y m d h i s : Int} (H : DF w y m d h i s W) (a b c e f g : Int) : SH w W.heap.size a b c e f g (W.alloc (.cells #[.int .i64 a, .int .i64 b, .int .i64 c, .int .i64 e, .int .i64 f, .int .i64 g] 98)) :=
  ⟨blk_alloc H.res, heap_alloc_new W _, H.bel.alloc H.bel.size _, Nat.lt_of_succ_lt (blk_lt H.box)⟩
theorem SH.two {w W : World} {sh : Nat} {y m d h i s : Int} {cs : Array Value} (H : DF w y m d h i s W) (hb : W.heap[sh]? = some (.cells cs 98 (0, 0))) (hs : w.heap.size < sh) (hne : w.heap.size + 1 ≠ sh) (a b c e f g : Int) :
    True ∧ ((((((W.setCell ⟨sh, 0, none⟩ (.int .i64 a)).setCell ⟨sh, 1, none⟩ (.int .i64 b)).setCell ⟨sh, 2, none⟩ (.int .i64 c)).setCell ⟨sh, 3, none⟩ (.int .i64 e)).setCell ⟨sh, 4, none⟩ (.int .i64 f)).setCell ⟨sh, 5, none⟩ (.int .i64 g)).heap[w.heap.size + 1]? = some (.cells #[.int .i64 y, .int .i64 m, .int .i64 d, .int .i64 h, .int .i64 i, .int .i64 s] 98 (0, 0)) :=
  ⟨trivial, blk_set_other (blk_set_other (blk_set_other (blk_set_other (blk_set_other (blk_set_other H.box hne _) hne _) hne _) hne _) hne _) hne _⟩
theorem SH.set {w W : World} {sh : Nat} {y m d h i s : Int} {cs : Value × Value × Value × Value × Value × Value} (H : DF w y m d h i s W) (hs : w.heap.size < sh) (hb : W.heap[sh]? = some (.cells #[cs.1, cs.2.1, cs.2.2.1, cs.2.2.2.1, cs.2.2.2.2.1, cs.2.2.2.2.2] 98 (0, 0))) (a b c e f g : Int) :
    SH w sh a b c e f g ((((((W.setCell ⟨sh, 0, none⟩ (.int .i64 a)).setCell ⟨sh, 1, none⟩ (.int .i64 b)).setCell ⟨sh, 2, none⟩ (.int .i64 c)).setCell ⟨sh, 3, none⟩ (.int .i64 e)).setCell ⟨sh, 4, none⟩ (.int .i64 f)).setCell ⟨sh, 5, none⟩ (.int .i64 g)) := by
  have hn : w.heap.size ≠ sh := by omega
  exact ⟨blk_set_other (blk_set_other (blk_set_other (blk_set_other (blk_set_other (blk_set_other H.res hn _) hn _) hn _) hn _) hn _) hn _, blk_set (blk_set (blk_set (blk_set (blk_set (blk_set hb _) _) _) _) _) _, (((((H.bel.setCell (p := ⟨sh, 0, none⟩) (Nat.le_of_lt hs) _).setCell (p := ⟨sh, 1, none⟩) (Nat.le_of_lt hs) _).setCell (p := ⟨sh, 2, none⟩) (Nat.le_of_lt hs) _).setCell (p := ⟨sh, 3, none⟩) (Nat.le_of_lt hs) _).setCell (p := ⟨sh, 4, none⟩) (Nat.le_of_lt hs) _).setCell (p := ⟨sh, 5, none⟩) (Nat.le_of_lt hs) _, hs⟩
/-- Time of any text. -/
theorem dtime_any6 (T : ByteArray) (y m d : Int) (hs : T.size ≤ 100000) : ∃ (BB : Bool) (th tm ts : Int), (∀ w, Calls Try.prog 112 #[.string T, .agg #[.int .i64 y, .int .i64 m, .int .i64 d, .int .i64 0, .int .i64 0, .int .i64 0]] w fun e w' => e = .returned (.tuple #[.agg #[.int .i64 y, .int .i64 m, .int .i64 d, .int .i64 th, .int .i64 tm, .int .i64 ts], .bool BB]) ∧ Below w.heap.size w w') ∧
    ((BB = true ∧ tmC T ∧ hmsB T = true ∧ nmD (T.extract 0 2) = th ∧ nmD (T.extract 3 5) = tm ∧ nmD (T.extract 6 T.size) = ts) ∨ (BB = false ∧ ¬ (tmC T ∧ hmsB T = true))) := by
  by_cases hT : tmC T
  · refine ⟨hmsB T, _, _, _, fun w => dtime_ok T y m d 0 0 0 w hT.1 hT.2.1 hT.2.2, ?_⟩
    cases hH : hmsB T
    · exact .inr ⟨rfl, fun h => by cases h.2⟩
    · exact .inl ⟨rfl, hT, rfl, rfl, rfl, rfl⟩
  · exact ⟨false, 0, 0, 0, fun w => dtime_bad T y m d 0 0 0 w hs hT, .inr ⟨rfl, fun h => hT h.1⟩⟩
theorem cells6D {W : World} {b : Nat} {t : TypeId} {v0 v1 v2 v3 v4 v5 : Value} (h : W.heap[b]? = some (.cells #[v0, v1, v2, v3, v4, v5] t (0, 0))) : W.cell? ⟨b, 0, none⟩ = some v0 ∧ W.cell? ⟨b, 1, none⟩ = some v1 ∧ W.cell? ⟨b, 2, none⟩ = some v2 ∧ W.cell? ⟨b, 3, none⟩ = some v3 ∧ W.cell? ⟨b, 4, none⟩ = some v4 ∧ W.cell? ⟨b, 5, none⟩ = some v5 :=
  ⟨blk_cell (i := 0) h rfl, blk_cell (i := 1) h rfl, blk_cell (i := 2) h rfl, blk_cell (i := 3) h rfl, blk_cell (i := 4) h rfl, blk_cell (i := 5) h rfl⟩
theorem wrapQ (n : Int) (h1 : -9223372036854775808 ≤ n) (h2 : n ≤ 9223372036854775807) : IntKind.i64.wrap n = n := by
  simp [IntKind.wrap, IntKind.signed, IntKind.bits, wrap64]; omega
theorem ixD_range (n : Nat) (S : Nat → ByteArray) (s : ByteArray) : -1 ≤ ixD n S s ∧ ixD n S s ≤ n := by
  unfold ixD
  cases h : ixN n S s with
  | none => exact ⟨by decide, by show (-1 : Int) ≤ _; omega⟩
  | some j => have := (ixN_lt h).1; exact ⟨by show (-1 : Int) ≤ (j : Int); omega, by show (j : Int) ≤ _; omega⟩
theorem RetFo.bad {o : Option Fd} {w W : World} {y m d h i s wk : Int} (hn : o = none) (hb : Below w.heap.size w W) : RetFo o w (.returned (.tuple #[.agg #[.int .i64 y, .int .i64 m, .int .i64 d, .int .i64 h, .int .i64 i, .int .i64 s], .int .i64 wk, .bool false])) W :=
  ⟨⟨[], y, m, d, h, i, s, wk⟩, by rw [hn]; rfl, hb, fun f hf => by rw [hn] at hf; cases hf⟩
theorem RetFo.good {o : Option Fd} {w W : World} {f : Fd} (hn : o = some f) (hb : Below w.heap.size w W) : RetFo o w (.returned (.tuple #[.agg #[.int .i64 f.y, .int .i64 f.m, .int .i64 f.d, .int .i64 f.h, .int .i64 f.i, .int .i64 f.s], .int .i64 f.wk, .bool true])) W :=
  ⟨f, by rw [hn]; rfl, hb, fun g hg => by rw [hn] at hg; cases hg; rfl⟩
theorem ba_neq6 {a b : ByteArray} (h : a ≠ b) : (a.toList != b.toList) = true := by rw [bne, ba_tlb6 h]; rfl
theorem ba_neq6' {a b : ByteArray} (h : a = b) : (a.toList != b.toList) = false := by rw [h, bne_self_eq_false]
end Go.Proofs.Ytgamekfickheaaa
