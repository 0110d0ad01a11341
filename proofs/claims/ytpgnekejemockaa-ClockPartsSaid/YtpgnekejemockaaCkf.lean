/- Who is due (layer 41): the sort, laid; what Tick sorts by, as an order (bin/mkckf.py). -/
import Derived.Test.YtpgnekejemockaaCkc
import Derived.Test.YtpgnekejemockaaShs
import Derived.Shelf.SlSortCmp.NoneTotal
import Derived.Ground.SlsfProg
namespace Go.Proofs.Ytpgnekejemockaa
open Go.RowKit Go.Shelf Go.Lib Go.Sort
set_option linter.unusedVariables false
set_option linter.unusedSimpArgs false

/-- Numbers that are numbers of their kind. -/
abbrev WInt := {x : Int // (Lit.int .i64 x).wf = true}
instance : Inhabited WInt := ⟨⟨0, by decide⟩⟩
def cmW (F : Int → Option Int) (x y : WInt) : Int := cmF F x.1 y.1
theorem cmI_neg (x y : Int) : decide (cmI x y < 0) = decide (x < y) := by
  unfold cmI
  by_cases h1 : x < y
  · simp [h1]
  · by_cases h2 : y < x <;> simp [h1, h2]
/-- Who comes first. -/
def ltW (F : Int → Option Int) (x y : Int) : Prop := (F x).getD 0 < (F y).getD 0 ∨ ((F x).getD 0 = (F y).getD 0 ∧ x < y)
instance (F : Int → Option Int) (x y : Int) : Decidable (ltW F x y) := by unfold ltW; infer_instance
theorem ltW_of (F : Int → Option Int) (x y : WInt) : ltOf (cmW F) x y = decide (ltW F x.1 y.1) := by
  show decide (cmF F x.1 y.1 < 0) = _
  unfold cmF
  by_cases h : (F x.1).getD 0 = (F y.1).getD 0
  · rw [if_pos h, cmI_neg]
    refine decide_eq_decide.2 ?_
    unfold ltW
    omega
  · rw [if_neg h, cmI_neg]
    refine decide_eq_decide.2 ?_
    unfold ltW
    omega
theorem ltW_t {F : Int → Option Int} {x y : WInt} : ltOf (cmW F) x y = true ↔ ltW F x.1 y.1 := by rw [ltW_of, decide_eq_true_eq]
theorem ltW_f {F : Int → Option Int} {x y : WInt} : ltOf (cmW F) x y = false ↔ ¬ ltW F x.1 y.1 := by rw [ltW_of, decide_eq_false_iff_not]
theorem swoW (F : Int → Option Int) : SWO (ltOf (cmW F)) where
  irrefl x := ltW_f.2 (by unfold ltW; omega)
  trans x y z h1 h2 := by
    have g1 := ltW_t.1 h1
    have g2 := ltW_t.1 h2
    refine ltW_t.2 ?_
    unfold ltW at *
    omega
  ntrans x y z h1 h2 := by
    have g1 := ltW_f.1 h1
    have g2 := ltW_f.1 h2
    refine ltW_f.2 ?_
    unfold ltW at *
    omega
theorem partW (F : Int → Option Int) (x y : WInt) (h1 : ltOf (cmW F) x y = false) (h2 : ltOf (cmW F) y x = false) : x = y := by
  have g1 := ltW_f.1 h1
  have g2 := ltW_f.1 h2
  unfold ltW at g1 g2
  exact Subtype.ext (by omega)
theorem sortW_block {α : Type} [Inhabited α] (enc : α → Value) (w : World) (blk off n : Nat) (dk : Array α) (os : Array Obj) {k : Nat} (hk : k < w.heap.size) (hne : k ≠ blk) : (sortWorld enc w blk off n dk os).heap[k]? = w.heap[k]? := by
  have e : (sortWorld enc w blk off n dk os).heap = w.heap.modify blk (onCells (putCells enc off dk)) ++ os := rfl
  rw [e, Array.getElem?_append_left (by rw [Array.size_modify]; exact hk), Array.getElem?_modify, if_neg (fun e => hne e.symm)]
theorem cmpW (b m n k : Nat) (now : Int) (F : Int → Option Int) (w : World) (blk off size : Nat) (h : CK b m n now F w) (hk : w.heap[k]? = some (.cells #[.pointer (some ⟨b, 0, none⟩)] 23 (0, 0))) (nb : b ≠ blk) (nm : m ≠ blk) (nk : k ≠ blk) :
    CmpReads Try.prog 39 #[.pointer (some ⟨k, 0, none⟩)] (fun x : WInt => .int .i64 x.1) (cmW F) blk off size w := fun q os dk _ x y =>
  tick1_any b m n k now F x.1 y.1 _ (h.kept (sortW_block _ _ _ _ _ _ _ (blk_lt h.hb) nb) (sortW_block _ _ _ _ _ _ _ h.mlt nm)) (blk_cell (i := 0) ((sortW_block _ _ _ _ _ _ _ (blk_lt hk) nk).trans hk) rfl) x.2 y.2
/-- The sort, in a clock's Tick. -/
theorem csort_any (b m n k : Nat) (now : Int) (F : Int → Option Int) (w : World) (blk cap : Nat) (d : Array WInt) (h : CK b m n now F w) (hk : w.heap[k]? = some (.cells #[.pointer (some ⟨b, 0, none⟩)] 23 (0, 0))) (nb : b ≠ blk) (nm : m ≠ blk) (nk : k ≠ blk)
    (hH : Holds (fun x : WInt => .int .i64 x.1) w blk 0 d) (hblk : blk < w.heap.size) (hsz : d.size ≤ 1000) :
    Calls Try.prog 38 #[.slice (some ⟨blk, 0, none⟩) d.size cap, .func (.func 39) #[] #[.pointer (some ⟨k, 0, none⟩)]] w fun e w' =>
      e = .returned (.tuple #[]) ∧ ∃ n os, w' = sortWorld (fun x : WInt => .int .i64 x.1) w blk 0 n (d.toList.mergeSort fun x y => !(ltOf (cmW F)) y x).toArray os :=
  Any.slices_SortFunc_total Ytpgnekejemockaa.sortI (fun x : WInt => .int .i64 x.1) (fun _ => rfl) (cmW F) (swoW F) 39 #[.pointer (some ⟨k, 0, none⟩)] blk 0 cap d w
    (enters_of Try.func39 (by kernel_rfl) rfl) (cmpW b m n k now F w blk 0 d.size h hk nb nm nk).lays hH hblk (by omega) (partW F)
end Go.Proofs.Ytpgnekejemockaa
