/- Dates of fields (layer 6): the document's number and index. · Dates of fields (layer 6): the document's Time. -/
import Derived.Test.YtgamekfickheaaaGreatDte
import Derived.Deep.Cut
namespace Go.Proofs.YtgamekfickheaaaGreat
open Go.RowKit
set_option linter.unusedVariables false
set_option linter.unusedSimpArgs false

theorem ba_tl6 {a b : ByteArray} : a.toList = b.toList ↔ a = b := by
  constructor
  · intro h
    rw [ByteArray.toList_eq, ByteArray.toList_eq] at h
    cases a with | mk d => cases b with | mk d2 => simp at h; rw [h]
  · rintro rfl; rfl
theorem ba_tlb6 {a b : ByteArray} (h : a ≠ b) : (a.toList == b.toList) = false := by rw [beq_eq_false_iff_ne]; exact fun e => h (ba_tl6.1 e)
/-- The document's number: -1 where there is none. -/
def nmQ (s : ByteArray) : Int := if numE 10 s 9999 = 0 then numV 10 s 9999 else -1
theorem dnumber_any (s : ByteArray) (w : World) (hs : s.size ≤ maxLen) :
    Calls Tryz.prog 128 #[.string s] w fun e w' => e = .returned (.int .i64 (nmQ s)) ∧ w' = w := by
  have HN := Kp.mk (show nmQ s = if numE 10 s 9999 = 0 then numV 10 s 9999 else -1 from rfl)
  have HC := Kp.mk (fun w => ref_number_10_any s 9999 w hs (by decide) (by decide))
  generalize numE 10 s 9999 = E at *
  generalize numV 10 s 9999 = V at *
  generalize nmQ s = R at *
  by_cases h : E = 0
  · subst h
    have HN2 := Kp.mk (HN.out.trans (if_pos rfl))
    clear HN
    go_enter Tryz.func128, Tryz.ntmps128
    go_wp2_with fail
    refine (HC.out _).mono ?_
    rintro e w1 ⟨rfl, rfl⟩
    go_wp2_with fail
    go_ret
    exact ⟨by rw [HN2.out]; rfl, rfl⟩
  · have HN2 := Kp.mk (HN.out.trans (if_neg h))
    have hb : (E != 0) = true := by rw [bne_iff_ne]; exact h
    clear HN
    go_enter Tryz.func128, Tryz.ntmps128
    go_wp2_with fail
    refine (HC.out _).mono ?_
    rintro e w1 ⟨rfl, rfl⟩
    go_wp2_with fail
    go_ret
    exact ⟨by rw [HN2.out]; rfl, rfl⟩
/-- The document's index: where a text stands among n ones. -/
def ixN (n : Nat) (S : Nat → ByteArray) (s : ByteArray) : Option Nat := (List.range n).find? fun k => decide (S k = s)
def ixD (n : Nat) (S : Nat → ByteArray) (s : ByteArray) : Int := match ixN n S s with | some k => (k : Int) | none => -1
set_option maxRecDepth 100000 in
set_option maxHeartbeats 2000000 in
theorem dindex_any (n : Nat) (S : Nat → ByteArray) (cs : Array Value) (b : Nat) (s : ByteArray) (w : World) (hn : n ≤ 100) (hcs : ∀ k, k < n → cs[k]? = some (.string (S k))) (hb : w.heap[b]? = some (.cells cs 9 (0, 0))) :
    Calls Tryz.prog 127 #[.slice (some ⟨b, 0, none⟩) n n, .string s] w fun e w' => e = .returned (.int .i64 (ixD n S s)) ∧ Below w.heap.size w w' := by
  have HC := Kp.mk hcs
  have HB := Kp.mk hb
  clear hcs hb
  go_enter Tryz.func127, Tryz.ntmps127
  go_wp2_with fail
  go_loopw [5] (fun i wr => ∃ k : Nat, k ≤ n ∧ i = .int .i64 k ∧ (∀ j, j < k → decide (S j = s) = false) ∧ Below w.heap.size w wr) (fun i _ => n - (intOf i).toNat)
  case atStart => exact ⟨0, by omega, rfl, fun j h => by omega, Below.refl _ _⟩
  case round =>
    obtain ⟨k, hk, rfl, ht, hw⟩ := hrel
    have HT := Kp.mk ht
    have HN := Kp.mk hw
    have c1 : k < n → wr.cell? ⟨b, k, none⟩ = some (.string (S k)) := fun hlt => blk_cell (i := k) ((hw.block _ (blk_lt HB.out)).trans HB.out) (HC.out k hlt)
    clear ht hw
    by_cases hlt : k < n
    · have c1 := c1 hlt
      have c2 : wr.cell? ⟨b, 0 + k, none⟩ = some (.string (S k)) := by rw [Nat.zero_add]; exact c1
      have q0 : (0 : Int) ≤ (k : Int) := by omega
      have q1 : (k : Int) < (n : Int) := by omega
      have q2 : (n : Int) ≤ 100 := by omega
      generalize hx1 : S k = x1 at *
      by_cases hxy : x1 = s
      · have HI := Kp.mk (show ixD n S s = (k : Int) by unfold ixD ixN; rw [find_hit hlt (by rw [hx1]; exact decide_eq_true hxy) HT.out])
        clear hx1
        subst hxy
        go_wp2_with fail
        (try go_quiet (fail))
        (try go_wp2_with fail)
        go_ret
        exact ⟨by rw [HI.out]; rfl, by first | exact HN.out | exact HN.out.trans ((gdrewN _ _).mono HN.out.size)⟩
      · have HT2 := Kp.mk (show ∀ j, j < k + 1 → decide (S j = s) = false from fun j hj => by
          rcases Nat.lt_or_ge j k with h1 | h1
          · exact HT.out j h1
          · obtain rfl : j = k := by omega
            rw [hx1]; exact decide_eq_false hxy)
        have t2 := ba_tlb6 hxy
        have t3 : ¬ (x1.toList = s.toList) := fun e => hxy (ba_tl6.1 e)
        clear hx1
        go_wp2_with fail
        (try go_quiet (fail))
        (try go_wp2_with fail)
        go_roundw
        case rel => exact ⟨k + 1, by omega, by go_num, HT2.out, by first | exact HN.out | exact HN.out.trans ((gdrewN _ _).mono HN.out.size)⟩
        case measure => simp [intOf]; omega
    · obtain rfl : k = n := by omega
      have HI := Kp.mk (show ixD k S s = -1 by unfold ixD ixN; rw [find_none HT.out])
      go_wp2_with fail
      go_ret
      exact ⟨by rw [HI.out]; rfl, HN.out⟩
end Go.Proofs.YtgamekfickheaaaGreat
namespace Go.Proofs.YtgamekfickheaaaGreat
open Go.RowKit
set_option linter.unusedVariables false
set_option linter.unusedSimpArgs false

set_option maxRecDepth 100000 in
set_option maxHeartbeats 2000000 in
/-- What is no time is told as it came. -/
theorem dtime_bad (tx : ByteArray) (y m d H M S : Int) (w : World) (hs : tx.size ≤ 100000) (hb : ¬ (tx.size = 8 ∧ bt tx 2 = 58 ∧ bt tx 5 = 58)) :
    Calls Tryz.prog 129 #[.string tx, .agg #[.int .i64 y, .int .i64 m, .int .i64 d, .int .i64 H, .int .i64 M, .int .i64 S]] w fun e w' => e = .returned (.tuple #[.agg #[.int .i64 y, .int .i64 m, .int .i64 d, .int .i64 H, .int .i64 M, .int .i64 S], .bool false]) ∧ Below w.heap.size w w' := by
  have k0 := heap_alloc_new w (.cells #[.int .i64 y, .int .i64 m, .int .i64 d, .int .i64 H, .int .i64 M, .int .i64 S] 66)
  have c0 := blk_cell (i := 0) k0 rfl
  have c1 := blk_cell (i := 1) k0 rfl
  have c2 := blk_cell (i := 2) k0 rfl
  have c3 := blk_cell (i := 3) k0 rfl
  have c4 := blk_cell (i := 4) k0 rfl
  have c5 := blk_cell (i := 5) k0 rfl
  clear k0
  have k1 : ((w.alloc (.cells #[.int .i64 y, .int .i64 m, .int .i64 d, .int .i64 H, .int .i64 M, .int .i64 S] 66)).alloc (.cells #[.int .i64 y, .int .i64 m, .int .i64 d, .int .i64 H, .int .i64 M, .int .i64 S] 66)).heap[w.heap.size + 1]? = some (.cells #[.int .i64 y, .int .i64 m, .int .i64 d, .int .i64 H, .int .i64 M, .int .i64 S] 66 (0, 0)) := by
    have := heap_alloc_new (w.alloc (.cells #[.int .i64 y, .int .i64 m, .int .i64 d, .int .i64 H, .int .i64 M, .int .i64 S] 66)) (.cells #[.int .i64 y, .int .i64 m, .int .i64 d, .int .i64 H, .int .i64 M, .int .i64 S] 66)
    rwa [World.size_alloc] at this
  have z0' := blk_cell (i := 0) k1 rfl
  have z1' := blk_cell (i := 1) k1 rfl
  have z2' := blk_cell (i := 2) k1 rfl
  have z3' := blk_cell (i := 3) k1 rfl
  have z4' := blk_cell (i := 4) k1 rfl
  have z5' := blk_cell (i := 5) k1 rfl
  clear k1
  by_cases h8 : tx.size = 8
  · have z2 := bt_at tx 2 (by omega)
    have z5 := bt_at tx 5 (by omega)
    have t8 : ((tx.size : Int) != 8) = false := by rw [bne_eq_false_iff_eq]; omega
    by_cases h2 : bt tx 2 = 58
    · have h5 : ¬ bt tx 5 = 58 := fun h5 => hb ⟨h8, h2, h5⟩
      have e2 : ((tx[2].toNat : Int) != 58) = false := by rw [z2, h2]; rfl
      have e5 : ((tx[5].toNat : Int) != 58) = true := by rw [z5, bne_iff_ne]; omega
      clear hb
      go_enter Tryz.func129, Tryz.ntmps129
      go_wp2_with fail
      exact bodyPost_ret (v := .tuple #[.agg #[.int .i64 y, .int .i64 m, .int .i64 d, .int .i64 H, .int .i64 M, .int .i64 S], .bool false]) (by simp [results, Tryz.results129, go_sem, z0', z1', z2', z3', z4', z5']) rfl ⟨rfl, ((Below.refl w.heap.size w).alloc (Nat.le_refl _) _).alloc (by simp) _⟩
    · have e2 : ((tx[2].toNat : Int) != 58) = true := by rw [z2, bne_iff_ne]; omega
      clear hb
      go_enter Tryz.func129, Tryz.ntmps129
      go_wp2_with fail
      exact bodyPost_ret (v := .tuple #[.agg #[.int .i64 y, .int .i64 m, .int .i64 d, .int .i64 H, .int .i64 M, .int .i64 S], .bool false]) (by simp [results, Tryz.results129, go_sem, z0', z1', z2', z3', z4', z5']) rfl ⟨rfl, ((Below.refl w.heap.size w).alloc (Nat.le_refl _) _).alloc (by simp) _⟩
  · have t8 : ((tx.size : Int) != 8) = true := by rw [bne_iff_ne]; omega
    clear hb
    go_enter Tryz.func129, Tryz.ntmps129
    go_wp2_with fail
    exact bodyPost_ret (v := .tuple #[.agg #[.int .i64 y, .int .i64 m, .int .i64 d, .int .i64 H, .int .i64 M, .int .i64 S], .bool false]) (by simp [results, Tryz.results129, go_sem, z0', z1', z2', z3', z4', z5']) rfl ⟨rfl, ((Below.refl w.heap.size w).alloc (Nat.le_refl _) _).alloc (by simp) _⟩
/-- What a time's three numbers come to. -/
def hmsB (tx : ByteArray) : Bool := decide (0 ≤ nmQ (tx.extract 0 2)) && decide (0 ≤ nmQ (tx.extract 3 5)) && decide (0 ≤ nmQ (tx.extract 6 tx.size))
set_option maxRecDepth 100000 in
set_option maxHeartbeats 2000000 in
theorem dtime_ok (tx : ByteArray) (y m d H M S : Int) (w : World) (h8 : tx.size = 8) (h2 : bt tx 2 = 58) (h5 : bt tx 5 = 58) :
    Calls Tryz.prog 129 #[.string tx, .agg #[.int .i64 y, .int .i64 m, .int .i64 d, .int .i64 H, .int .i64 M, .int .i64 S]] w fun e w' => e = .returned (.tuple #[.agg #[.int .i64 y, .int .i64 m, .int .i64 d, .int .i64 (nmQ (tx.extract 0 2)), .int .i64 (nmQ (tx.extract 3 5)), .int .i64 (nmQ (tx.extract 6 tx.size))], .bool (hmsB tx)]) ∧ Below w.heap.size w w' := by
  have z2 := bt_at tx 2 (by omega)
  have z5 := bt_at tx 5 (by omega)
  have t8 : ((tx.size : Int) != 8) = false := by rw [bne_eq_false_iff_eq]; omega
  have q8 : (tx.size : Int) = 8 := by omega
  have e2 : ((tx[2].toNat : Int) != 58) = false := by rw [z2, h2]; rfl
  have e5 : ((tx[5].toNat : Int) != 58) = false := by rw [z5, h5]; rfl
  have K1 := Kp.mk (fun w => dnumber_any (tx.extract 0 2) w (by simp [maxLen]; omega))
  have K2 := Kp.mk (fun w => dnumber_any (tx.extract 3 5) w (by simp [maxLen]; omega))
  have K3 := Kp.mk (fun w => dnumber_any (tx.extract 6 tx.size) w (by simp [maxLen]; omega))
  have HR := Kp.mk (show hmsB tx = (decide (0 ≤ nmQ (tx.extract 0 2)) && decide (0 ≤ nmQ (tx.extract 3 5)) && decide (0 ≤ nmQ (tx.extract 6 tx.size))) from rfl)
  generalize nmQ (tx.extract 0 2) = n1 at *
  generalize nmQ (tx.extract 3 5) = n2 at *
  generalize nmQ (tx.extract 6 tx.size) = n3 at *
  generalize hmsB tx = RB at *
  rw [h8] at K3
  have k0 := blk_alloc (o2 := .cells #[.int .i64 0, .int .i64 0, .int .i64 0, .int .i64 0, .int .i64 0, .int .i64 0] 66) (heap_alloc_new w (.cells #[.int .i64 y, .int .i64 m, .int .i64 d, .int .i64 n1, .int .i64 n2, .int .i64 n3] 66))
  have x0 := blk_cell (i := 0) k0 rfl
  have x1 := blk_cell (i := 1) k0 rfl
  have x2 := blk_cell (i := 2) k0 rfl
  have x3 := blk_cell (i := 3) k0 rfl
  have x4 := blk_cell (i := 4) k0 rfl
  have x5 := blk_cell (i := 5) k0 rfl
  clear k0
  have hc : (RB = false ∧ n1 < 0 ∧ decide (0 ≤ n1) = false) ∨ (RB = false ∧ (0 ≤ n1 ∧ decide (0 ≤ n1) = true) ∧ n2 < 0 ∧ decide (0 ≤ n2) = false) ∨ (RB = false ∧ (0 ≤ n1 ∧ decide (0 ≤ n1) = true) ∧ (0 ≤ n2 ∧ decide (0 ≤ n2) = true) ∧ n3 < 0 ∧ decide (0 ≤ n3) = false) ∨ (RB = true ∧ (0 ≤ n1 ∧ decide (0 ≤ n1) = true) ∧ (0 ≤ n2 ∧ decide (0 ≤ n2) = true) ∧ 0 ≤ n3 ∧ decide (0 ≤ n3) = true) := by
    rw [HR.out]
    by_cases a : 0 ≤ n1 <;> by_cases b : 0 ≤ n2 <;> by_cases c : 0 ≤ n3 <;> simp [a, b, c] <;> omega
  clear HR
  have k1 : (((w.alloc (.cells #[.int .i64 y, .int .i64 m, .int .i64 d, .int .i64 n1, .int .i64 n2, .int .i64 n3] 66)).alloc (.cells #[.int .i64 y, .int .i64 m, .int .i64 d, .int .i64 n1, .int .i64 n2, .int .i64 n3] 66)).drew).heap[w.heap.size + 1]? = some (.cells #[.int .i64 y, .int .i64 m, .int .i64 d, .int .i64 n1, .int .i64 n2, .int .i64 n3] 66 (0, 0)) := by
    have := heap_alloc_new (w.alloc (.cells #[.int .i64 y, .int .i64 m, .int .i64 d, .int .i64 n1, .int .i64 n2, .int .i64 n3] 66)) (.cells #[.int .i64 y, .int .i64 m, .int .i64 d, .int .i64 n1, .int .i64 n2, .int .i64 n3] 66)
    rw [World.size_alloc] at this
    exact this
  have v0 := blk_cell (i := 0) k1 rfl
  have v1 := blk_cell (i := 1) k1 rfl
  have v2 := blk_cell (i := 2) k1 rfl
  have v3 := blk_cell (i := 3) k1 rfl
  have v4 := blk_cell (i := 4) k1 rfl
  have v5 := blk_cell (i := 5) k1 rfl
  have HBL := Kp.mk (show Below w.heap.size w (((w.alloc (.cells #[.int .i64 y, .int .i64 m, .int .i64 d, .int .i64 n1, .int .i64 n2, .int .i64 n3] 66)).alloc (.cells #[.int .i64 y, .int .i64 m, .int .i64 d, .int .i64 n1, .int .i64 n2, .int .i64 n3] 66)).drew) from (((Below.refl w.heap.size w).alloc (Nat.le_refl _) _).alloc (by simp) _).trans ((gdrewN _ 1).mono (by simp only [World.size_alloc]; omega)))
  clear k1
  rcases hc with ⟨rfl, p1, g1⟩ | ⟨rfl, ⟨p1, g1⟩, p2, g2⟩ | ⟨rfl, ⟨p1, g1⟩, ⟨p2, g2⟩, p3, g3⟩ | ⟨rfl, ⟨p1, g1⟩, ⟨p2, g2⟩, p3, g3⟩
  all_goals
    go_enter Tryz.func129, Tryz.ntmps129
    go_wp2_with fail
    refine (K1.out _).mono ?_
    rintro e w1 ⟨rfl, rfl⟩
    go_wp2_with fail
    refine (K2.out _).mono ?_
    rintro e w1 ⟨rfl, rfl⟩
    go_wp2_with fail
    refine (K3.out _).mono ?_
    rintro e w1 ⟨rfl, rfl⟩
    go_upto_region 6 with fail
    go_region
    go_wp2_with fail
    exact bodyPost_ret (v := .tuple #[.agg #[.int .i64 y, .int .i64 m, .int .i64 d, .int .i64 n1, .int .i64 n2, .int .i64 n3], .bool _]) (by simp [results, Tryz.results129, go_sem, v0, v1, v2, v3, v4, v5]) rfl ⟨rfl, HBL.out⟩
end Go.Proofs.YtgamekfickheaaaGreat
