/- Dates of fields (layer 6): the document's Time. -/
import Derived.Test.YtgamekfickheaaaDti
import Derived.Deep.Cut
namespace Go.Proofs.Ytgamekfickheaaa
open Go.RowKit
set_option linter.unusedVariables false
set_option linter.unusedSimpArgs false

set_option maxRecDepth 100000 in
set_option maxHeartbeats 2000000 in
/-- What is no time is told as it came. -/
theorem dtime_bad (tx : ByteArray) (y m d H M S : Int) (w : World) (hs : tx.size ≤ 100000) (hb : ¬ (tx.size = 8 ∧ bt tx 2 = 58 ∧ bt tx 5 = 58)) :
    Calls Try.prog 112 #[.string tx, .agg #[.int .i64 y, .int .i64 m, .int .i64 d, .int .i64 H, .int .i64 M, .int .i64 S]] w fun e w' => e = .returned (.tuple #[.agg #[.int .i64 y, .int .i64 m, .int .i64 d, .int .i64 H, .int .i64 M, .int .i64 S], .bool false]) ∧ Below w.heap.size w w' := by
  have k0 := heap_alloc_new w (.cells #[.int .i64 y, .int .i64 m, .int .i64 d, .int .i64 H, .int .i64 M, .int .i64 S] 98)
  have c0 := blk_cell (i := 0) k0 rfl
  have c1 := blk_cell (i := 1) k0 rfl
  have c2 := blk_cell (i := 2) k0 rfl
  have c3 := blk_cell (i := 3) k0 rfl
  have c4 := blk_cell (i := 4) k0 rfl
  have c5 := blk_cell (i := 5) k0 rfl
  clear k0
  have k1 : ((w.alloc (.cells #[.int .i64 y, .int .i64 m, .int .i64 d, .int .i64 H, .int .i64 M, .int .i64 S] 98)).alloc (.cells #[.int .i64 y, .int .i64 m, .int .i64 d, .int .i64 H, .int .i64 M, .int .i64 S] 98)).heap[w.heap.size + 1]? = some (.cells #[.int .i64 y, .int .i64 m, .int .i64 d, .int .i64 H, .int .i64 M, .int .i64 S] 98 (0, 0)) := by
    have := heap_alloc_new (w.alloc (.cells #[.int .i64 y, .int .i64 m, .int .i64 d, .int .i64 H, .int .i64 M, .int .i64 S] 98)) (.cells #[.int .i64 y, .int .i64 m, .int .i64 d, .int .i64 H, .int .i64 M, .int .i64 S] 98)
    rwa [World.size_alloc] at this
  have z0' := blk_cell (i := 0) k1 rfl
  have z1' := blk_cell (i := 1) k1 rfl
  have z2' := blk_cell (i := 2) k1 rfl
  have z3' := blk_cell (i := 3) k1 rfl
  have z4' := blk_cell (i := 4) k1 rfl
  have z5' := blk_cell (i := 5) k1 rfl
  clear k1
  by_cases h8 : tx.size = 8
  · have z2 := bt_at tx 2 (by omega)
    have z5 := bt_at tx 5 (by omega)
    have t8 : ((tx.size : Int) != 8) = false := by rw [bne_eq_false_iff_eq]; omega
    by_cases h2 : bt tx 2 = 58
    · have h5 : ¬ bt tx 5 = 58 := fun h5 => hb ⟨h8, h2, h5⟩
      have e2 : ((tx[2].toNat : Int) != 58) = false := by rw [z2, h2]; rfl
      have e5 : ((tx[5].toNat : Int) != 58) = true := by rw [z5, bne_iff_ne]; omega
      clear hb
      go_enter Try.func112, Try.ntmps112
      go_wp2_with fail
      exact bodyPost_ret (v := .tuple #[.agg #[.int .i64 y, .int .i64 m, .int .i64 d, .int .i64 H, .int .i64 M, .int .i64 S], .bool false]) (by simp [results, Try.results112, go_sem, z0', z1', z2', z3', z4', z5']) rfl ⟨rfl, ((Below.refl w.heap.size w).alloc (Nat.le_refl _) _).alloc (by simp) _⟩
    · have e2 : ((tx[2].toNat : Int) != 58) = true := by rw [z2, bne_iff_ne]; omega
      clear hb
      go_enter Try.func112, Try.ntmps112
      go_wp2_with fail
      exact bodyPost_ret (v := .tuple #[.agg #[.int .i64 y, .int .i64 m, .int .i64 d, .int .i64 H, .int .i64 M, .int .i64 S], .bool false]) (by simp [results, Try.results112, go_sem, z0', z1', z2', z3', z4', z5']) rfl ⟨rfl, ((Below.refl w.heap.size w).alloc (Nat.le_refl _) _).alloc (by simp) _⟩
  · have t8 : ((tx.size : Int) != 8) = true := by rw [bne_iff_ne]; omega
    clear hb
    go_enter Try.func112, Try.ntmps112
    go_wp2_with fail
    exact bodyPost_ret (v := .tuple #[.agg #[.int .i64 y, .int .i64 m, .int .i64 d, .int .i64 H, .int .i64 M, .int .i64 S], .bool false]) (by simp [results, Try.results112, go_sem, z0', z1', z2', z3', z4', z5']) rfl ⟨rfl, ((Below.refl w.heap.size w).alloc (Nat.le_refl _) _).alloc (by simp) _⟩
/-- What a time's three numbers come to. -/
def hmsB (tx : ByteArray) : Bool := decide (0 ≤ nmD (tx.extract 0 2)) && decide (0 ≤ nmD (tx.extract 3 5)) && decide (0 ≤ nmD (tx.extract 6 tx.size))
set_option maxRecDepth 100000 in
set_option maxHeartbeats 2000000 in
theorem dtime_ok (tx : ByteArray) (y m d H M S : Int) (w : World) (h8 : tx.size = 8) (h2 : bt tx 2 = 58) (h5 : bt tx 5 = 58) :
    Calls Try.prog 112 #[.string tx, .agg #[.int .i64 y, .int .i64 m, .int .i64 d, .int .i64 H, .int .i64 M, .int .i64 S]] w fun e w' => e = .returned (.tuple #[.agg #[.int .i64 y, .int .i64 m, .int .i64 d, .int .i64 (nmD (tx.extract 0 2)), .int .i64 (nmD (tx.extract 3 5)), .int .i64 (nmD (tx.extract 6 tx.size))], .bool (hmsB tx)]) ∧ Below w.heap.size w w' := by
  have z2 := bt_at tx 2 (by omega)
  have z5 := bt_at tx 5 (by omega)
  have t8 : ((tx.size : Int) != 8) = false := by rw [bne_eq_false_iff_eq]; omega
  have q8 : (tx.size : Int) = 8 := by omega
  have e2 : ((tx[2].toNat : Int) != 58) = false := by rw [z2, h2]; rfl
  have e5 : ((tx[5].toNat : Int) != 58) = false := by rw [z5, h5]; rfl
  have K1 := Kp.mk (fun w => dnumber_any (tx.extract 0 2) w (by simp [maxLen]; omega))
  have K2 := Kp.mk (fun w => dnumber_any (tx.extract 3 5) w (by simp [maxLen]; omega))
  have K3 := Kp.mk (fun w => dnumber_any (tx.extract 6 tx.size) w (by simp [maxLen]; omega))
  have HR := Kp.mk (show hmsB tx = (decide (0 ≤ nmD (tx.extract 0 2)) && decide (0 ≤ nmD (tx.extract 3 5)) && decide (0 ≤ nmD (tx.extract 6 tx.size))) from rfl)
  generalize nmD (tx.extract 0 2) = n1 at *
  generalize nmD (tx.extract 3 5) = n2 at *
  generalize nmD (tx.extract 6 tx.size) = n3 at *
  generalize hmsB tx = RB at *
  rw [h8] at K3
  have k0 := blk_alloc (o2 := .cells #[.int .i64 0, .int .i64 0, .int .i64 0, .int .i64 0, .int .i64 0, .int .i64 0] 98) (heap_alloc_new w (.cells #[.int .i64 y, .int .i64 m, .int .i64 d, .int .i64 n1, .int .i64 n2, .int .i64 n3] 98))
  have x0 := blk_cell (i := 0) k0 rfl
  have x1 := blk_cell (i := 1) k0 rfl
  have x2 := blk_cell (i := 2) k0 rfl
  have x3 := blk_cell (i := 3) k0 rfl
  have x4 := blk_cell (i := 4) k0 rfl
  have x5 := blk_cell (i := 5) k0 rfl
  clear k0
  have hc : (RB = false ∧ n1 < 0 ∧ decide (0 ≤ n1) = false) ∨ (RB = false ∧ (0 ≤ n1 ∧ decide (0 ≤ n1) = true) ∧ n2 < 0 ∧ decide (0 ≤ n2) = false) ∨ (RB = false ∧ (0 ≤ n1 ∧ decide (0 ≤ n1) = true) ∧ (0 ≤ n2 ∧ decide (0 ≤ n2) = true) ∧ n3 < 0 ∧ decide (0 ≤ n3) = false) ∨ (RB = true ∧ (0 ≤ n1 ∧ decide (0 ≤ n1) = true) ∧ (0 ≤ n2 ∧ decide (0 ≤ n2) = true) ∧ 0 ≤ n3 ∧ decide (0 ≤ n3) = true) := by
    rw [HR.out]
    by_cases a : 0 ≤ n1 <;> by_cases b : 0 ≤ n2 <;> by_cases c : 0 ≤ n3 <;> simp [a, b, c] <;> omega
  clear HR
  have k1 : (((w.alloc (.cells #[.int .i64 y, .int .i64 m, .int .i64 d, .int .i64 n1, .int .i64 n2, .int .i64 n3] 98)).alloc (.cells #[.int .i64 y, .int .i64 m, .int .i64 d, .int .i64 n1, .int .i64 n2, .int .i64 n3] 98)).drew).heap[w.heap.size + 1]? = some (.cells #[.int .i64 y, .int .i64 m, .int .i64 d, .int .i64 n1, .int .i64 n2, .int .i64 n3] 98 (0, 0)) := by
    have := heap_alloc_new (w.alloc (.cells #[.int .i64 y, .int .i64 m, .int .i64 d, .int .i64 n1, .int .i64 n2, .int .i64 n3] 98)) (.cells #[.int .i64 y, .int .i64 m, .int .i64 d, .int .i64 n1, .int .i64 n2, .int .i64 n3] 98)
    rw [World.size_alloc] at this
    exact this
  have v0 := blk_cell (i := 0) k1 rfl
  have v1 := blk_cell (i := 1) k1 rfl
  have v2 := blk_cell (i := 2) k1 rfl
  have v3 := blk_cell (i := 3) k1 rfl
  have v4 := blk_cell (i := 4) k1 rfl
  have v5 := blk_cell (i := 5) k1 rfl
  have HBL := Kp.mk (show Below w.heap.size w (((w.alloc (.cells #[.int .i64 y, .int .i64 m, .int .i64 d, .int .i64 n1, .int .i64 n2, .int .i64 n3] 98)).alloc (.cells #[.int .i64 y, .int .i64 m, .int .i64 d, .int .i64 n1, .int .i64 n2, .int .i64 n3] 98)).drew) from (((Below.refl w.heap.size w).alloc (Nat.le_refl _) _).alloc (by simp) _).trans ((gdrewN _ 1).mono (by simp only [World.size_alloc]; omega)))
  clear k1
  rcases hc with ⟨rfl, p1, g1⟩ | ⟨rfl, ⟨p1, g1⟩, p2, g2⟩ | ⟨rfl, ⟨p1, g1⟩, ⟨p2, g2⟩, p3, g3⟩ | ⟨rfl, ⟨p1, g1⟩, ⟨p2, g2⟩, p3, g3⟩
  all_goals
    go_enter Try.func112, Try.ntmps112
    go_wp2_with fail
    refine (K1.out _).mono ?_
    rintro e w1 ⟨rfl, rfl⟩
    go_wp2_with fail
    refine (K2.out _).mono ?_
    rintro e w1 ⟨rfl, rfl⟩
    go_wp2_with fail
    refine (K3.out _).mono ?_
    rintro e w1 ⟨rfl, rfl⟩
    go_upto_region 6 with fail
    go_region
    go_wp2_with fail
    exact bodyPost_ret (v := .tuple #[.agg #[.int .i64 y, .int .i64 m, .int .i64 d, .int .i64 n1, .int .i64 n2, .int .i64 n3], .bool _]) (by simp [results, Try.results112, go_sem, v0, v1, v2, v3, v4, v5]) rfl ⟨rfl, HBL.out⟩
end Go.Proofs.Ytgamekfickheaaa
