/- Tally (layer 49): the closure add of sorted (bin/mktld.py). -/
import Derived.Test.YtocnecbhpofdgaaTlb
import Derived.Test.YtocnecbhpofdgaaTlc
namespace Go.Proofs.Ytocnecbhpofdgaa
open Go.RowKit
set_option linter.unusedVariables false
set_option linter.unusedSimpArgs false

theorem own_kT {w w' : World} {B : Nat} {e : TypeId} {sz n : Nat} {v : Value} {xs : List Value} (h : w.ownsRow B e sz v n xs) (hk : ∀ k, k < w.heap.size → v.ownBlock = some k → w'.heap[k]? = w.heap[k]?) : w'.ownsRow B e sz v n xs := by
  refine ⟨h.1, ?_⟩
  rcases h.2 with h1 | ⟨g, cap, cur, h1, h2, h3, rest⟩
  · exact .inl h1
  · refine .inr ⟨g, cap, cur, h1, h2, (hk g (blk_lt h3) ?_).trans h3, rest⟩
    subst h1
    rfl
theorem Try.infoRs : (Try.prog.info? 110).map (fun i => (i.zero, i.size, i.bytes)) = some (some (.agg #[.string ByteArray.empty, .int .i64 0]), 2, 24) := by kernel_rfl
/-- A box that holds a row of rows. -/
def Bxs (B bx : Nat) (L : List Rs) (w : World) : Prop := ∃ v, w.heap[bx]? = some (.cells #[v] 107 (0, 0)) ∧ w.ownsRow B 110 2 v L.length (L.flatMap RsE) ∧ v.ownBlock ≠ some bx
/-- Whatever is neither the box nor a row stays. -/
structure Krs (B bx : Nat) (w w' : World) : Prop where
  os : w'.os = w.os
  tape : w'.tape = w.tape
  output : w'.output = w.output
  size : w.heap.size ≤ w'.heap.size
  block : ∀ k, k < w.heap.size → k ≠ bx → (∀ cur, w.heap[k]? ≠ some (.cells cur 110 (0, 0))) → w'.heap[k]? = w.heap[k]?
  low : ∀ k, k < w.heap.size → k < B → k ≠ bx → w'.heap[k]? = w.heap[k]?
set_option maxRecDepth 100000 in
set_option maxHeartbeats 2000000 in
theorem tclos_any (B bx : Nat) (L : List Rs) (x : ByteArray) (n : Int) (w : World) (h : Bxs B bx L w) (hl : L.length ≤ 10000) (hB : B ≤ w.heap.size) :
    Calls Try.prog 84 #[.string x, .int .i64 n, .pointer (some ⟨bx, 0, none⟩)] w fun e w' => e = .returned (.tuple #[]) ∧ Bxs B bx (if 0 < n then L ++ [(x, n)] else L) w' ∧ Krs B bx w w' := by
  obtain ⟨v, h1, h2, h3⟩ := h
  have HB := Kp.mk h1
  have HO := Kp.mk h2
  have HN := Kp.mk h3
  have HSZ := Kp.mk hB
  have c0 := blk_cell (i := 0) h1 rfl
  have f0 := blk_free (i := 0) h1
  have hbl := blk_lt h1
  by_cases hn : 0 < n
  · have hlen : (L.length + 1) * 24 ≤ 140737488355328 := by omega
    have hmx : L.length + 1 ≤ maxLen := by unfold maxLen; omega
    have HI := Kp.mk (show (if 0 < n then L ++ [(x, n)] else L) = L ++ [(x, n)] from if_pos hn)
    obtain ⟨a, cp, rfl⟩ := own_lenT h2
    clear h1 h2 h3
    rw [HI.out]
    go_enter Try.func84, Try.ntmps84
    go_wp2_with (first
      | (at_builtin; refine app_any rfl _ _ _ _ rfl Try.underlying107 _ _ _ Try.infoRs rfl (by omega) B _ _ _ rfl HO.out #[.string x, .int .i64 n] rfl (fun u hu => by simp at hu; rcases hu with rfl | rfl <;> rfl) _ rfl rfl hlen hmx hB ?_; intro g' cap' w' k1 k2 k3; have K1 := Kp.mk k1; have K2 := Kp.mk (show (w.alloc (.cells #[.string x, .int .i64 n] 110)).grownBy w' (Value.slice a L.length cp).ownBlock from k2); have K3 := Kp.mk k3; have hbx := (k2.block bx (by simp; omega) (fun e => HN.out e.symm)).trans ((Below.heap_alloc w _ bx hbl).trans HB.out); have c1 := blk_cell (i := 0) hbx rfl; have f1 := blk_free (i := 0) hbx; have HX := Kp.mk hbx; clear k1 k2 k3 hbx)
      | fail)
    first | go_end0 | go_ret
    have hne : ¬ g' = bx := by
      intro e
      rcases K3.out with h9 | h9
      · exact HN.out (h9.trans (by rw [e]))
      · omega
    refine ⟨rfl, ⟨_, blk_set HX.out _, ?_, fun e => hne (by injection e)⟩, ?_⟩
    · rw [List.length_append, List.flatMap_append]
      have := K1.out
      exact own_kT this fun k hk hb => Below.heap_setCell _ _ _ _ (fun e => hne (by subst e; injection hb))
    · refine ⟨K2.out.os, K2.out.tape, K2.out.output, ?_, fun k hk hne2 hr => ?_, fun k hk hkB hne2 => ?_⟩
      · have := K2.out.size
        simp at this ⊢
        omega
      · refine (Below.heap_setCell _ _ _ _ hne2).trans ((K2.out.block k (by simp; omega) (fun e => ?_)).trans (Below.heap_alloc w _ k hk))
        rcases HO.out.2 with ⟨e1, _⟩ | ⟨g, cap, cur, e1, e2, e3, _⟩
        · have h9 := congrArg Value.ownBlock e1
          rw [h9] at e
          cases e
        · cases e1; cases e; exact hr _ e3
      · exact (Below.heap_setCell _ _ _ _ hne2).trans ((K2.out.block k (by simp; omega) (fun e => by have := (HO.out.lt k e.symm).1; omega)).trans (Below.heap_alloc w _ k hk))
  · have HI := Kp.mk (show (if 0 < n then L ++ [(x, n)] else L) = L from if_neg hn)
    clear h1 h2 h3
    rw [HI.out]
    go_enter Try.func84, Try.ntmps84
    go_wp2_with fail
    first | go_end0 | go_ret
    exact ⟨rfl, ⟨v, HB.out, HO.out, HN.out⟩, ⟨rfl, rfl, rfl, Nat.le_refl _, fun _ _ _ _ => rfl, fun _ _ _ _ => rfl⟩⟩
theorem Try.infoRi : (Try.prog.info? 81).map (fun i => (i.zero, i.size, i.bytes)) = some (some (.agg #[.int .i64 0, .int .i64 0]), 2, 16) := by kernel_rfl
/-- A box that holds a row of rows. -/
def Bxi (B bx : Nat) (L : List Ri) (w : World) : Prop := ∃ v, w.heap[bx]? = some (.cells #[v] 78 (0, 0)) ∧ w.ownsRow B 81 2 v L.length (L.flatMap RiE) ∧ v.ownBlock ≠ some bx
/-- Whatever is neither the box nor a row stays. -/
structure Kri (B bx : Nat) (w w' : World) : Prop where
  os : w'.os = w.os
  tape : w'.tape = w.tape
  output : w'.output = w.output
  size : w.heap.size ≤ w'.heap.size
  block : ∀ k, k < w.heap.size → k ≠ bx → (∀ cur, w.heap[k]? ≠ some (.cells cur 81 (0, 0))) → w'.heap[k]? = w.heap[k]?
  low : ∀ k, k < w.heap.size → k < B → k ≠ bx → w'.heap[k]? = w.heap[k]?
set_option maxRecDepth 100000 in
set_option maxHeartbeats 2000000 in
theorem tcloi_any (B bx : Nat) (L : List Ri) (x : Int) (n : Int) (w : World) (h : Bxi B bx L w) (hl : L.length ≤ 10000) (hB : B ≤ w.heap.size) :
    Calls Try.prog 65 #[.int .i64 x, .int .i64 n, .pointer (some ⟨bx, 0, none⟩)] w fun e w' => e = .returned (.tuple #[]) ∧ Bxi B bx (if 0 < n then L ++ [(x, n)] else L) w' ∧ Kri B bx w w' := by
  obtain ⟨v, h1, h2, h3⟩ := h
  have HB := Kp.mk h1
  have HO := Kp.mk h2
  have HN := Kp.mk h3
  have HSZ := Kp.mk hB
  have c0 := blk_cell (i := 0) h1 rfl
  have f0 := blk_free (i := 0) h1
  have hbl := blk_lt h1
  by_cases hn : 0 < n
  · have hlen : (L.length + 1) * 16 ≤ 140737488355328 := by omega
    have hmx : L.length + 1 ≤ maxLen := by unfold maxLen; omega
    have HI := Kp.mk (show (if 0 < n then L ++ [(x, n)] else L) = L ++ [(x, n)] from if_pos hn)
    obtain ⟨a, cp, rfl⟩ := own_lenT h2
    clear h1 h2 h3
    rw [HI.out]
    go_enter Try.func65, Try.ntmps65
    go_wp2_with (first
      | (at_builtin; refine app_any rfl _ _ _ _ rfl Try.underlying78 _ _ _ Try.infoRi rfl (by omega) B _ _ _ rfl HO.out #[.int .i64 x, .int .i64 n] rfl (fun u hu => by simp at hu; rcases hu with rfl | rfl <;> rfl) _ rfl rfl hlen hmx hB ?_; intro g' cap' w' k1 k2 k3; have K1 := Kp.mk k1; have K2 := Kp.mk (show (w.alloc (.cells #[.int .i64 x, .int .i64 n] 81)).grownBy w' (Value.slice a L.length cp).ownBlock from k2); have K3 := Kp.mk k3; have hbx := (k2.block bx (by simp; omega) (fun e => HN.out e.symm)).trans ((Below.heap_alloc w _ bx hbl).trans HB.out); have c1 := blk_cell (i := 0) hbx rfl; have f1 := blk_free (i := 0) hbx; have HX := Kp.mk hbx; clear k1 k2 k3 hbx)
      | fail)
    first | go_end0 | go_ret
    have hne : ¬ g' = bx := by
      intro e
      rcases K3.out with h9 | h9
      · exact HN.out (h9.trans (by rw [e]))
      · omega
    refine ⟨rfl, ⟨_, blk_set HX.out _, ?_, fun e => hne (by injection e)⟩, ?_⟩
    · rw [List.length_append, List.flatMap_append]
      have := K1.out
      exact own_kT this fun k hk hb => Below.heap_setCell _ _ _ _ (fun e => hne (by subst e; injection hb))
    · refine ⟨K2.out.os, K2.out.tape, K2.out.output, ?_, fun k hk hne2 hr => ?_, fun k hk hkB hne2 => ?_⟩
      · have := K2.out.size
        simp at this ⊢
        omega
      · refine (Below.heap_setCell _ _ _ _ hne2).trans ((K2.out.block k (by simp; omega) (fun e => ?_)).trans (Below.heap_alloc w _ k hk))
        rcases HO.out.2 with ⟨e1, _⟩ | ⟨g, cap, cur, e1, e2, e3, _⟩
        · have h9 := congrArg Value.ownBlock e1
          rw [h9] at e
          cases e
        · cases e1; cases e; exact hr _ e3
      · exact (Below.heap_setCell _ _ _ _ hne2).trans ((K2.out.block k (by simp; omega) (fun e => by have := (HO.out.lt k e.symm).1; omega)).trans (Below.heap_alloc w _ k hk))
  · have HI := Kp.mk (show (if 0 < n then L ++ [(x, n)] else L) = L from if_neg hn)
    clear h1 h2 h3
    rw [HI.out]
    go_enter Try.func65, Try.ntmps65
    go_wp2_with fail
    first | go_end0 | go_ret
    exact ⟨rfl, ⟨v, HB.out, HO.out, HN.out⟩, ⟨rfl, rfl, rfl, Nat.le_refl _, fun _ _ _ _ => rfl, fun _ _ _ _ => rfl⟩⟩
end Go.Proofs.Ytocnecbhpofdgaa
