/- First lines (layer 15): a request's line read, the program's. -/
import Derived.Test.YtnpolkpofaamlaaStl
namespace Go.Proofs.Ytnpolkpofaamlaa
open Go.RowKit
set_option linter.unusedVariables false
set_option linter.unusedSimpArgs false

/-- A block of six cells, stored into. -/
theorem res6_end {w w2 : World} {b : Nat} {t : TypeId} {a0 a1 a2 a3 a4 a5 : Value} (hk : w2.heap[b]? = some (.cells #[a0, a1, a2, a3, a4, a5] t (0, 0))) (hb : Below w.heap.size w w2) (hB : w.heap.size ≤ b) (u0 u1 u2 u3 u4 u5 : Value) :
    ((((((w2.setCell ⟨b, 0, none⟩ u0).setCell ⟨b, 1, none⟩ u1).setCell ⟨b, 2, none⟩ u2).setCell ⟨b, 3, none⟩ u3).setCell ⟨b, 4, none⟩ u4).setCell ⟨b, 5, none⟩ u5).heap[b]? = some (.cells #[u0, u1, u2, u3, u4, u5] t (0, 0)) ∧ Below w.heap.size w ((((((w2.setCell ⟨b, 0, none⟩ u0).setCell ⟨b, 1, none⟩ u1).setCell ⟨b, 2, none⟩ u2).setCell ⟨b, 3, none⟩ u3).setCell ⟨b, 4, none⟩ u4).setCell ⟨b, 5, none⟩ u5) :=
  ⟨(blk_set (blk_set (blk_set (blk_set (blk_set (blk_set hk _) _) _) _) _) _).trans rfl, (((((hb.setCell hB _).setCell hB _).setCell hB _).setCell hB _).setCell hB _).setCell hB _⟩
theorem tw_new (w : World) (o : Obj) (k : Nat) (h : w.heap.size = k) : (w.alloc o).heap[k]? = some o := by subst h; exact heap_alloc_new w o
def ReqPost (s : ByteArray) (w : World) (e : Ending) (w' : World) : Prop :=
  e = .returned (.tuple #[.agg #[.string (reqM s), .string (reqT s), .int .i64 (reqN s), .int .i64 0, .string ⟨#[]⟩, .slice none 0 0], .int .i64 (reqE s)]) ∧ Below w.heap.size w w'
theorem req_chk (s : ByteArray) : chkE [(decide (cnt32 s = 2), 3), (tokenB (cut1 s), 6), (visibleB (cut1 (cut2 s)), 11), (decide (minE (cut2 (cut2 s)) = 0), minE (cut2 (cut2 s)))] = reqE s := by
  have gen : ∀ (c : Nat) (a b : Bool) (m : Int), chkE [(decide (c = 2), 3), (a, 6), (b, 11), (decide (m = 0), m)] = if c ≠ 2 then 3 else if a = false then 6 else if b = false then 11 else m := by
    intro c a b m
    by_cases h1 : c = 2 <;> cases a <;> cases b <;> by_cases h4 : m = 0 <;> simp [chkE, h1, h4]
  exact gen _ _ _ _
/-- The blocks, one behind the other. -/
theorem req_tower (w : World) (A B C D E F : Obj) (n1 n2 : Nat) :
    let W := ((((((((w.alloc A).alloc B).drewN n1).alloc C).drewN n2).alloc D).alloc E).alloc F)
    W.heap[w.heap.size]? = some A ∧ W.heap[w.heap.size + 1]? = some B ∧ W.heap[w.heap.size + 1 + 1]? = some C ∧ W.heap[w.heap.size + 1 + 1 + 1]? = some D ∧ W.heap[w.heap.size + 1 + 1 + 1 + 1]? = some E ∧ W.heap[w.heap.size + 1 + 1 + 1 + 1 + 1]? = some F ∧ Below w.heap.size w W := by
  have a1 : (w.alloc A).heap.size = w.heap.size + 1 := World.size_alloc _ _
  have a2 : ((w.alloc A).alloc B).heap.size = w.heap.size + 1 + 1 := by rw [World.size_alloc, a1]
  have a2' : (((w.alloc A).alloc B).drewN n1).heap.size = w.heap.size + 1 + 1 := a2
  have a3 : ((((w.alloc A).alloc B).drewN n1).alloc C).heap.size = w.heap.size + 1 + 1 + 1 := by rw [World.size_alloc, a2']
  have a3' : (((((w.alloc A).alloc B).drewN n1).alloc C).drewN n2).heap.size = w.heap.size + 1 + 1 + 1 := a3
  have a4 : ((((((w.alloc A).alloc B).drewN n1).alloc C).drewN n2).alloc D).heap.size = w.heap.size + 1 + 1 + 1 + 1 := by rw [World.size_alloc, a3']
  have a5 : (((((((w.alloc A).alloc B).drewN n1).alloc C).drewN n2).alloc D).alloc E).heap.size = w.heap.size + 1 + 1 + 1 + 1 + 1 := by rw [World.size_alloc, a4]
  have b0 := Below.refl w.heap.size w
  refine ⟨?_, ?_, ?_, ?_, ?_, ?_, ?_⟩
  · exact blk_alloc (blk_alloc (blk_alloc (blk_drewN (blk_alloc (blk_drewN (blk_alloc (heap_alloc_new w A)) n1)) n2)))
  · exact blk_alloc (blk_alloc (blk_alloc (blk_drewN (blk_alloc (blk_drewN (tw_new _ B _ a1) n1)) n2)))
  · exact blk_alloc (blk_alloc (blk_alloc (blk_drewN (tw_new _ C _ a2') n2)))
  · exact blk_alloc (blk_alloc (tw_new _ D _ a3'))
  · exact blk_alloc (tw_new _ E _ a4)
  · exact tw_new _ F _ a5
  · have c2 : Below w.heap.size w (((w.alloc A).alloc B).drewN n1) := (((b0.alloc (Nat.le_refl _) A).alloc (by omega) B).trans ((gdrewN _ n1).mono (by omega)))
    have c3 : Below w.heap.size w (((((w.alloc A).alloc B).drewN n1).alloc C).drewN n2) := (c2.alloc (by omega) C).trans ((gdrewN _ n2).mono (by omega))
    exact ((c3.alloc (by omega) D).alloc (by omega) E).alloc (by omega) F
end Go.Proofs.Ytnpolkpofaamlaa
