/- Refusals (layer 33): the status of an error, both. -/
import Derived.Test.YtlpcjnjhpgddmaaDtd
import Derived.Test.YtlpcjnjhpgddmaaDte
namespace Go.Proofs.Ytlpcjnjhpgddmaa
open Go.RowKit
set_option linter.unusedVariables false
set_option linter.unusedSimpArgs false

def tbE : Nat → Int
  | 0 => 21
  | 1 => 20
  | 2 => 18
  | 3 => 4
  | 4 => 10
  | 5 => 15
  | 6 => 9
  | 7 => 17
  | _ => 0
def tbS : Nat → Int
  | 0 => 408
  | 1 => 413
  | 2 => 417
  | 3 => 431
  | 4 => 501
  | 5 => 501
  | 6 => 505
  | 7 => 508
  | _ => 0
/-- P33.1. -/
def rfS (side e : Int) : Int :=
  if side ≠ 1 then (if e = 21 then 504 else 502) else
  if e = 21 then 408 else
  if e = 20 then 413 else
  if e = 18 then 417 else
  if e = 4 then 431 else
  if e = 10 then 501 else
  if e = 15 then 501 else
  if e = 9 then 505 else
  if e = 17 then 508 else
  400
theorem rfS_hit (e : Int) (k : Nat) (hk : k < 8) (h : e = tbE k) : rfS 1 e = tbS k := by
  subst h
  rcases (by omega : k = 0 ∨ k = 1 ∨ k = 2 ∨ k = 3 ∨ k = 4 ∨ k = 5 ∨ k = 6 ∨ k = 7) with rfl | rfl | rfl | rfl | rfl | rfl | rfl | rfl <;> rfl
theorem rfS_none (e : Int) (h : ∀ j, j < 8 → e ≠ tbE j) : rfS 1 e = 400 := by
  have h0 : e ≠ 21 := h 0 (by omega)
  have h1 : e ≠ 20 := h 1 (by omega)
  have h2 : e ≠ 18 := h 2 (by omega)
  have h3 : e ≠ 4 := h 3 (by omega)
  have h4 : e ≠ 10 := h 4 (by omega)
  have h5 : e ≠ 15 := h 5 (by omega)
  have h6 : e ≠ 9 := h 6 (by omega)
  have h7 : e ≠ 17 := h 7 (by omega)
  unfold rfS
  rw [if_neg (by simp), if_neg h0, if_neg h1, if_neg h2, if_neg h3, if_neg h4, if_neg h5, if_neg h6, if_neg h7]
def tbV : Value := .agg #[.int .i64 21, .int .i64 408, .int .i64 20, .int .i64 413, .int .i64 18, .int .i64 417, .int .i64 4, .int .i64 431, .int .i64 10, .int .i64 501, .int .i64 15, .int .i64 501, .int .i64 9, .int .i64 505, .int .i64 17, .int .i64 508]
theorem idx_tb (k : Nat) (hk : k < 8) (w : World) : (Instr.index 89 tbV (.int .i64 (k : Int))).run Try.prog w = .ok (.agg #[.int .i64 (tbE k), .int .i64 (tbS k)]) w := by
  rcases (by omega : k = 0 ∨ k = 1 ∨ k = 2 ∨ k = 3 ∨ k = 4 ∨ k = 5 ∨ k = 6 ∨ k = 7) with rfl | rfl | rfl | rfl | rfl | rfl | rfl | rfl
  all_goals kernel_rfl
set_option maxRecDepth 100000 in
set_option maxHeartbeats 1000000 in
theorem table_any (w : World) : Calls Try.prog 62 #[] w fun e w' => e = .returned tbV ∧ Below w.heap.size w w' := by
  have k1 := heap_alloc_new w (.cells #[.int .i64 21, .int .i64 408, .int .i64 20, .int .i64 413, .int .i64 18, .int .i64 417, .int .i64 4, .int .i64 431, .int .i64 10, .int .i64 501, .int .i64 15, .int .i64 501, .int .i64 9, .int .i64 505, .int .i64 17, .int .i64 508] 89)
  have z0 := blk_cell (i := 0) k1 rfl
  have z1 := blk_cell (i := 1) k1 rfl
  have z2 := blk_cell (i := 2) k1 rfl
  have z3 := blk_cell (i := 3) k1 rfl
  have z4 := blk_cell (i := 4) k1 rfl
  have z5 := blk_cell (i := 5) k1 rfl
  have z6 := blk_cell (i := 6) k1 rfl
  have z7 := blk_cell (i := 7) k1 rfl
  have z8 := blk_cell (i := 8) k1 rfl
  have z9 := blk_cell (i := 9) k1 rfl
  have z10 := blk_cell (i := 10) k1 rfl
  have z11 := blk_cell (i := 11) k1 rfl
  have z12 := blk_cell (i := 12) k1 rfl
  have z13 := blk_cell (i := 13) k1 rfl
  have z14 := blk_cell (i := 14) k1 rfl
  have z15 := blk_cell (i := 15) k1 rfl
  go_enter Try.func62, Try.ntmps62
  go_wp2_with fail
  exact bodyPost_ret (v := tbV) (by simp [results, Try.results62, go_sem, z0, z1, z2, z3, z4, z5, z6, z7, z8, z9, z10, z11, z12, z13, z14, z15] <;> rfl) rfl ⟨rfl, (Below.refl _ _).alloc (Nat.le_refl _) _⟩
theorem is33_any (e x : Int) (b : Nat) (w : World) (h : w.cell? ⟨b, 0, none⟩ = some (.int .i64 e)) :
    Calls Try.prog 61 #[.int .i64 x, .pointer (some ⟨b, 0, none⟩)] w fun r w' => r = .returned (.bool (e == x)) ∧ w = w' := by
  go_enter Try.func61, Try.ntmps61
  go_wp2_with fail
  go_ret
  exact ⟨rfl, rfl⟩
set_option maxRecDepth 100000 in
set_option maxHeartbeats 2000000 in
theorem status33_any (side e : Int) (w : World) : Calls Try.prog 25 #[.int .i64 side, .int .i64 e] w fun r w' => r = .returned (.int .i64 (rfS side e)) ∧ Below w.heap.size w w' := by
  have HBX := Kp.mk (heap_alloc_new w (.cells #[.int .i64 e] 36))
  have HB := Kp.mk ((Below.refl _ w).alloc (Nat.le_refl _) (.cells #[.int .i64 e] 36))
  have c0 := blk_cell (i := 0) HBX.out rfl
  by_cases hs : side = 1
  · subst hs
    have HH := Kp.mk (rfS_hit e)
    have HN := Kp.mk (rfS_none e)
    generalize rfS 1 e = R at *
    go_enter Try.func25, Try.ntmps25
    go_wp2_with fail
    refine (table_any _).mono ?_
    rintro r w1 ⟨rfl, hb1⟩
    have HX1 := Kp.mk ((hb1.block _ (by simp)).trans HBX.out)
    have HB1 := Kp.mk (HB.out.trans (hb1.mono (by simp)))
    clear hb1 c0
    go_wp2_with fail
    go_loopw [20] (fun i wr => ∃ k : Nat, k ≤ 8 ∧ i = .int .i64 k ∧ (∀ j, j < k → e ≠ tbE j) ∧ wr.heap[w.heap.size]? = some (.cells #[.int .i64 e] 36 (0, 0)) ∧ Below w.heap.size w wr) (fun i _ => 8 - (intOf i).toNat)
    case atStart => exact ⟨0, by omega, rfl, fun j h => by omega, HX1.out, HB1.out⟩
    case round =>
      obtain ⟨k, hk, rfl, hh, hx, hb⟩ := hrel
      have HHH := Kp.mk hh
      have HX := Kp.mk hx
      have HBB := Kp.mk hb
      clear hh hx hb
      by_cases hlt : k < 8
      · have hix := fun w => idx_tb k hlt w
        have hkk : (k : Int) < 8 := by omega
        have HHK := Kp.mk (fun q => HH.out k hlt q)
        have HXA := Kp.mk (blk_alloc (o2 := .cells #[.int .i64 (tbE k), .int .i64 (tbS k)] 88) HX.out)
        have c0 := blk_cell (i := 0) HXA.out rfl
        have HST := Kp.mk (fun (q : ¬ e = tbE k) => show ∀ j, j < k + 1 → e ≠ tbE j from fun j hj => by
          rcases Nat.lt_or_ge j k with h1 | h1
          · exact HHH.out j h1
          · obtain rfl : j = k := by omega
            exact q)
        have HBA := Kp.mk (HBB.out.alloc HBB.out.size (.cells #[.int .i64 (tbE k), .int .i64 (tbS k)] 88))
        generalize tbE k = a at *
        generalize tbS k = s at *
        go_wp2_with fail
        refine (is33_any e a _ _ c0).mono ?_
        rintro r w2 ⟨rfl, rfl⟩
        by_cases he : e = a
        · have he2 : (e == a) = true := by rw [beq_iff_eq]; exact he
          go_wp2_with fail
          go_ret
          exact ⟨by rw [HHK.out he]; rfl, HBA.out⟩
        · have he2 : (e == a) = false := by rw [beq_eq_false_iff_ne]; exact he
          go_wp2_with fail
          go_roundw
          case rel => exact ⟨k + 1, by omega, by go_num, HST.out he, HXA.out, HBA.out⟩
          case measure => simp [intOf]; omega
      · obtain rfl : k = 8 := by omega
        go_wp2_with fail
        go_ret
        exact ⟨by rw [HN.out HHH.out]; rfl, HBB.out⟩
  · have hs2 : (side != 1) = true := by rw [bne_iff_ne]; exact hs
    by_cases he : e = 21
    · subst he
      have HR := Kp.mk (show rfS side 21 = 504 by unfold rfS; rw [if_pos hs]; rfl)
      go_enter Try.func25, Try.ntmps25
      go_wp2_with fail
      refine (is33_any 21 21 _ _ c0).mono ?_
      rintro r w2 ⟨rfl, rfl⟩
      go_wp2_with fail
      go_ret
      exact ⟨by rw [HR.out]; rfl, HB.out⟩
    · have HR := Kp.mk (show rfS side e = 502 by unfold rfS; rw [if_pos hs, if_neg he])
      have he2 : (e == 21) = false := by rw [beq_eq_false_iff_ne]; exact he
      go_enter Try.func25, Try.ntmps25
      go_wp2_with fail
      refine (is33_any e 21 _ _ c0).mono ?_
      rintro r w2 ⟨rfl, rfl⟩
      go_wp2_with fail
      go_ret
      exact ⟨by rw [HR.out]; rfl, HB.out⟩
set_option maxRecDepth 100000 in
set_option maxHeartbeats 2000000 in
theorem rstatus33_any (side e : Int) (w : World) : Calls Try.prog 26 #[.int .i64 side, .int .i64 e] w fun r w' => r = .returned (.int .i64 (rfS side e)) ∧ w = w' := by
  by_cases hs : side = 1
  · subst hs
    by_cases hin : ∃ k, k < 8 ∧ e = tbE k
    · obtain ⟨k, hk, rfl⟩ := hin
      have HR := Kp.mk (rfS_hit (tbE k) k hk rfl)
      rw [HR.out]
      rcases (by omega : k = 0 ∨ k = 1 ∨ k = 2 ∨ k = 3 ∨ k = 4 ∨ k = 5 ∨ k = 6 ∨ k = 7) with rfl | rfl | rfl | rfl | rfl | rfl | rfl | rfl
      all_goals
        show Calls _ _ #[.int .i64 1, .int .i64 (_ : Int)] _ _
        simp only [tbE, tbS]
        go_enter Try.func26, Try.ntmps26
        go_wp2_with fail
        go_ret
        exact ⟨rfl, rfl⟩
    · have hn : ∀ j, j < 8 → e ≠ tbE j := fun j hj h => hin ⟨j, hj, h⟩
      have HR := Kp.mk (rfS_none e hn)
      rw [HR.out]
      have q0 : (e == 21) = false := by rw [beq_eq_false_iff_ne]; exact hn 0 (by omega)
      have q1 : (e == 20) = false := by rw [beq_eq_false_iff_ne]; exact hn 1 (by omega)
      have q2 : (e == 18) = false := by rw [beq_eq_false_iff_ne]; exact hn 2 (by omega)
      have q3 : (e == 4) = false := by rw [beq_eq_false_iff_ne]; exact hn 3 (by omega)
      have q4 : (e == 10) = false := by rw [beq_eq_false_iff_ne]; exact hn 4 (by omega)
      have q5 : (e == 15) = false := by rw [beq_eq_false_iff_ne]; exact hn 5 (by omega)
      have q6 : (e == 9) = false := by rw [beq_eq_false_iff_ne]; exact hn 6 (by omega)
      have q7 : (e == 17) = false := by rw [beq_eq_false_iff_ne]; exact hn 7 (by omega)
      clear hin hn
      go_enter Try.func26, Try.ntmps26
      go_wp2_with fail
      go_ret
      exact ⟨rfl, rfl⟩
  · have hs2 : (side != 1) = true := by rw [bne_iff_ne]; exact hs
    by_cases he : e = 21
    · subst he
      have HR := Kp.mk (show rfS side 21 = 504 by unfold rfS; rw [if_pos hs]; rfl)
      go_enter Try.func26, Try.ntmps26
      go_wp2_with fail
      go_ret
      exact ⟨by rw [HR.out]; rfl, rfl⟩
    · have HR := Kp.mk (show rfS side e = 502 by unfold rfS; rw [if_pos hs, if_neg he])
      have he2 : (e == 21) = false := by rw [beq_eq_false_iff_ne]; exact he
      go_enter Try.func26, Try.ntmps26
      go_wp2_with fail
      go_ret
      exact ⟨by rw [HR.out]; rfl, rfl⟩
end Go.Proofs.Ytlpcjnjhpgddmaa
