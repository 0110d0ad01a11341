/- Lists (layer 7): what is closed in, seen octet by octet; the program's. -/
import Derived.Test.YthlkflneldjnjaaLsb
import Derived.Test.YthlkflneldjnjaaOwo
namespace Go.Proofs.Ythlkflneldjnjaa
open Go.RowKit
set_option linter.unusedVariables false
set_option linter.unusedSimpArgs false

/-- The three variables that the closure keeps. -/
structure Cl (b : Nat) (q p : Bool) (d : Nat) (w : World) : Prop where
  cq : w.heap[b]? = some (.cells #[.bool q] 4 (0, 0))
  cp : w.heap[b + 1]? = some (.cells #[.bool p] 4 (0, 0))
  cd : w.heap[b + 2]? = some (.cells #[.int .i64 d] 3 (0, 0))
def ClF (b k : Nat) : Prop := k < b ∨ b + 3 ≤ k
theorem Cl.setQ {b : Nat} {q p : Bool} {d : Nat} {w : World} (h : Cl b q p d w) (q' : Bool) : Cl b q' p d (w.setCell ⟨b, 0, none⟩ (.bool q')) :=
  ⟨blk_set h.cq _, blk_set_other h.cp (by omega) _, blk_set_other h.cd (by omega) _⟩
theorem Cl.setP {b : Nat} {q p : Bool} {d : Nat} {w : World} (h : Cl b q p d w) (p' : Bool) : Cl b q p' d (w.setCell ⟨b + 1, 0, none⟩ (.bool p')) :=
  ⟨blk_set_other h.cq (by omega) _, blk_set h.cp _, blk_set_other h.cd (by omega) _⟩
theorem Cl.setD {b : Nat} {q p : Bool} {d : Nat} {w : World} (h : Cl b q p d w) (n : Int) (d' : Nat) (hn : n = d') : Cl b q p d' (w.setCell ⟨b + 2, 0, none⟩ (.int .i64 n)) := by
  subst hn
  exact ⟨blk_set_other h.cq (by omega) _, blk_set_other h.cp (by omega) _, blk_set h.cd _⟩
theorem Cl.kept {b : Nat} {q p : Bool} {d : Nat} {w w' : World} (h : Cl b q p d w) (hk : ∀ k, b ≤ k → k ≤ b + 2 → w'.heap[k]? = w.heap[k]?) : Cl b q p d w' :=
  ⟨(hk _ (by omega) (by omega)).trans h.cq, (hk _ (by omega) (by omega)).trans h.cp, (hk _ (by omega) (by omega)).trans h.cd⟩
def SeeT (b : Nat) (q p : Bool) (d c : Nat) (w : World) (e : Ending) (w' : World) : Prop :=
  e = .returned (.bool (psIn (seeQ q p d c) (seeD q p d c))) ∧ Cl b (seeQ q p d c) (seeP q p d c) (seeD q p d c) w' ∧ Kpt (ClF b) w w'
theorem see_to {b : Nat} {q p : Bool} {d c : Nat} {w w' : World} {r q' p' : Bool} {d' : Nat} (h1 : seeQ q p d c = q') (h2 : seeP q p d c = p') (h3 : seeD q p d c = d') (hr : r = psIn q' d') (hc : Cl b q' p' d' w') (hk : Kpt (ClF b) w w') : SeeT b q p d c w (.returned (.bool r)) w' := by
  unfold SeeT
  rw [h1, h2, h3]
  exact ⟨by rw [hr], hc, hk⟩
set_option maxRecDepth 100000 in
set_option maxHeartbeats 4000000 in
theorem see_any (b : Nat) (q p : Bool) (d c : Nat) (w : World) (h : Cl b q p d w) (hd : d ≤ 1000000000) (hc : c ≤ 255) :
    Calls Try.prog 133 #[.int .u8 c, .pointer (some ⟨b + 1, 0, none⟩), .pointer (some ⟨b, 0, none⟩), .pointer (some ⟨b + 2, 0, none⟩)] w (SeeT b q p d c w) := by
  have H := Kp.mk h
  have c1 := blk_cell (i := 0) h.cq rfl
  have c2 := blk_cell (i := 0) h.cp rfl
  have c3 := blk_cell (i := 0) h.cd rfl
  have f1 := blk_free (i := 0) h.cq
  have f2 := blk_free (i := 0) h.cp
  have f3 := blk_free (i := 0) h.cd
  have K0 := Kp.mk (Kpt.refl (ClF b) w)
  clear h
  have hways : c = 92 ∨ c = 34 ∨ c = 40 ∨ c = 41 ∨ (c ≠ 92 ∧ c ≠ 34 ∧ c ≠ 40 ∧ c ≠ 41) := by omega
  cases p
  · rcases (show d = 0 ∨ (¬ d = 0 ∧ 0 < d) by omega) with rfl | ⟨hd1, hd0⟩
    all_goals
      cases q
      all_goals
        rcases hways with rfl | rfl | rfl | rfl | ⟨n1, n2, n3, n4⟩
        all_goals
          go_enter Try.func133, Try.ntmps133
          go_wp2_with fail
          go_ret
          first
            | exact see_to (by simp [seeQ, *]) (by simp [seeP, *]) (by simp [seeD, *]) (by simp [psIn, *]) H.out K0.out
            | exact see_to (by simp [seeQ, *]) (by simp [seeP, *]) (by simp [seeD, *]) (by simp [psIn, *]) (H.out.setP _) (K0.out.setCell _ _ (by unfold ClF; omega))
            | exact see_to (by simp [seeQ, *]) (by simp [seeP, *]) (by simp [seeD, *]) (by simp [psIn, *]) (H.out.setQ _) (K0.out.setCell _ _ (by unfold ClF; omega))
            | exact see_to (by simp [seeQ, *]) (by simp [seeP, *]) (by simp [seeD, *] <;> rfl) (by simp [psIn, *] <;> omega) (H.out.setD _ (d + 1) (by omega)) (K0.out.setCell _ _ (by unfold ClF; omega))
            | exact see_to (by simp [seeQ, *]) (by simp [seeP, *]) (by simp [seeD, *] <;> rfl) (by simp [psIn, *] <;> omega) (H.out.setD _ (d - 1) (by omega)) (K0.out.setCell _ _ (by unfold ClF; omega))
            | exact see_to (by simp [seeQ, *]) (by simp [seeP, *]) (by simp [seeD, *]) (by simp [psIn, *]) (H.out.setD _ 1 (by omega)) (K0.out.setCell _ _ (by unfold ClF; omega))
  · have hF : psIn q d = (q || decide ((0 : Int) < (d : Int))) := by unfold psIn; congr 1; simp
    have HF := Kp.mk hF
    clear hF hways
    go_enter Try.func133, Try.ntmps133
    cases q
    all_goals
      go_wp2_with fail
      go_ret
      refine see_to (by simp [seeQ]) (by simp [seeP]) (by simp [seeD]) ?_ (H.out.setP false) (K0.out.setCell _ _ (by unfold ClF; omega))
      first | rfl | (rw [HF.out]; simp) | simp [psIn]
set_option maxRecDepth 100000 in
set_option maxHeartbeats 1000000 in
theorem closing_any (w : World) : Calls Try.prog 121 #[] w fun e w' =>
    e = .returned (.func (.func 133) #[] #[.pointer (some ⟨w.heap.size + 1, 0, none⟩), .pointer (some ⟨w.heap.size, 0, none⟩), .pointer (some ⟨w.heap.size + 2, 0, none⟩)]) ∧
      Cl w.heap.size false false 0 w' ∧ w'.heap.size = w.heap.size + 3 ∧ Below w.heap.size w w' := by
  go_enter Try.func121, Try.ntmps121
  go_wp2_with fail
  go_ret
  refine ⟨rfl, ?_⟩
  have e1 : (w.alloc (.cells #[.bool false] 4)).heap.size = w.heap.size + 1 := World.size_alloc _ _
  have e2 : ((w.alloc (.cells #[.bool false] 4)).alloc (.cells #[.bool false] 4)).heap.size = w.heap.size + 2 := by rw [World.size_alloc, e1]
  have k1 := heap_alloc_new (w.alloc (.cells #[.bool false] 4)) (.cells #[.bool false] 4)
  have k2 := heap_alloc_new ((w.alloc (.cells #[.bool false] 4)).alloc (.cells #[.bool false] 4)) (.cells #[.int .i64 0] 3)
  rw [e1] at k1
  rw [e2] at k2
  exact ⟨⟨blk_alloc (blk_alloc (heap_alloc_new w _)), blk_alloc k1, k2⟩, by rw [World.size_alloc, e2], ((Below.refl _ _).alloc (Nat.le_refl _) _ |>.alloc (by rw [e1]; omega) _).alloc (by rw [e2]; omega) _⟩
end Go.Proofs.Ythlkflneldjnjaa
