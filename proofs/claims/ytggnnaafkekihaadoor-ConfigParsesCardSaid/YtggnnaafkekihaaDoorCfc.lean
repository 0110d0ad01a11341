/- Settings (layer 13): Right on both sides (bin/mkcfc.py). -/
import Derived.Test.YtggnnaafkekihaaDoorCfb
import Derived.BigQuiet
import Derived.Deep.DeepCutAuto
namespace Go.Proofs.YtggnnaafkekihaaDoor
open Go.RowKit
set_option linter.unusedVariables false
set_option linter.unusedSimpArgs false

theorem cf_setRow_other {w : World} {g k : Nat} (cs : Array Value) (w' : World) (h : k ≠ g) : (w.setRow g cs).heap[k]? = w.heap[k]? := by
  have h' : ¬ g = k := fun e => h e.symm
  simp [World.setRow, Array.getElem?_modify, h']
theorem cfE_name {n0 n1 : ByteArray} {L : List Int} (h : tokenB n0 = false ∨ 100 < n0.size) : cfE n0 n1 L = 6 := by unfold cfE; rw [if_pos h]
theorem cfE_host {n0 n1 : ByteArray} {L : List Int} (h : tokenB n0 = true) (h1 : ¬ 100 < n0.size) (h2 : n1.size ≠ 0) (h3 : cfBad n1 = true) : cfE n0 n1 L = 13 := by
  unfold cfE
  rw [if_neg (by rw [h]; simp [h1]), if_pos ⟨h2, h3⟩]
theorem cfE_num {n0 n1 : ByteArray} {L : List Int} (h : tokenB n0 = true) (h1 : ¬ 100 < n0.size) (h2 : n1.size = 0 ∨ cfBad n1 = false) : cfE n0 n1 L = if cfIn L = false then 5 else 0 := by
  unfold cfE
  rw [if_neg (by rw [h]; simp [h1]), if_neg (by rintro ⟨a, b⟩; rcases h2 with h2 | h2; exact a h2; rw [h2] at b; cases b)]
/-- The four ways of an authority. -/
theorem cf_ways (n1 : ByteArray) : n1 = ⟨#[]⟩ ∨ (n1.size ≠ 0 ∧ ((hsE n1 == 0) = false ∧ cfBad n1 = true)) ∨ (n1.size ≠ 0 ∧ (hsE n1 == 0) = true ∧ ((hsK n1).toList == n1.toList) = false ∧ cfBad n1 = true) ∨
    (n1.size ≠ 0 ∧ (hsE n1 == 0) = true ∧ hsK n1 = n1 ∧ 200 < n1.size ∧ cfBad n1 = true) ∨ (n1.size ≠ 0 ∧ (hsE n1 == 0) = true ∧ hsK n1 = n1 ∧ ¬ 200 < n1.size ∧ cfBad n1 = false) := by
  by_cases h0 : n1.size = 0
  · refine .inl ?_
    cases n1 with
    | mk d =>
      have : d = #[] := Array.size_eq_zero_iff.1 h0
      rw [this]
  by_cases h1 : hsE n1 = 0
  · have e1 : (hsE n1 == 0) = true := by rw [h1]; rfl
    by_cases h2 : hsK n1 = n1
    · by_cases h3 : 200 < n1.size
      · exact .inr (.inr (.inr (.inl ⟨h0, e1, h2, h3, by unfold cfBad; rw [h2]; simp [h3]⟩)))
      · exact .inr (.inr (.inr (.inr ⟨h0, e1, h2, h3, by unfold cfBad; rw [h2, h1]; simp [h3]⟩)))
    · exact .inr (.inr (.inl ⟨h0, e1, cf_tlb h2, by unfold cfBad; simp [h2]⟩))
  · exact .inr (.inl ⟨h0, by simpa using h1, by unfold cfBad; simp [h1]⟩)
set_option maxRecDepth 100000 in
set_option maxHeartbeats 4000000 in
theorem cf_right (n0 n1 : ByteArray) (c0 c1 c2 c3 c4 c5 c6 c7 c8 c9 c10 c11 c12 c13 c14 c15 : Int) (w : World) (h0 : n0.size ≤ 1000) (h1 : n1.size ≤ 1000) :
    Calls Tryd.prog 17 #[.agg #[.string n0, .string n1, .int .i64 c0, .int .i64 c1, .int .i64 c2, .int .i64 c3, .int .i64 c4, .int .i64 c5, .int .i64 c6, .int .i64 c7, .int .i64 c8, .int .i64 c9, .int .i64 c10, .int .i64 c11, .int .i64 c12, .int .i64 c13, .int .i64 c14, .int .i64 c15]] w fun e w' => e = .returned (.int .i64 (cfE n0 n1 [c0, c1, c2, c3, c4, c5, c6, c7, c8, c9, c10, c11, c12, c13, c14, c15])) ∧ Below w.heap.size w w' := by
  have HW := Kp.mk (cf_ways n1)
  have H1 := Kp.mk h1
  have hb0 : Below w.heap.size w (w.alloc (.cells #[.string n0, .string n1, .int .i64 c0, .int .i64 c1, .int .i64 c2, .int .i64 c3, .int .i64 c4, .int .i64 c5, .int .i64 c6, .int .i64 c7, .int .i64 c8, .int .i64 c9, .int .i64 c10, .int .i64 c11, .int .i64 c12, .int .i64 c13, .int .i64 c14, .int .i64 c15] 25)) := below_alF (Below.refl _ _) (Nat.le_refl _) _
  have HB0 := Kp.mk hb0
  clear hb0 h1
  go_enter Tryd.func17, Tryd.ntmps17
  go_wp2_with fail
  refine (oct_token_any n0 _ (by unfold maxLen; omega)).mono ?_
  rintro e w1 ⟨rfl, hb1⟩
  have BX := Kp.mk (show w1.heap[w.heap.size]? = some (.cells #[.string n0, .string n1, .int .i64 c0, .int .i64 c1, .int .i64 c2, .int .i64 c3, .int .i64 c4, .int .i64 c5, .int .i64 c6, .int .i64 c7, .int .i64 c8, .int .i64 c9, .int .i64 c10, .int .i64 c11, .int .i64 c12, .int .i64 c13, .int .i64 c14, .int .i64 c15] 25 (0, 0)) from (hb1.block _ (by simp)).trans (heap_alloc_new _ _))
  have HB := Kp.mk (HB0.out.trans (hb1.mono (by simp)))
  have e0 : w1.cell? ⟨w.heap.size, 0, none⟩ = some (.string n0) := blk_cell BX.out rfl
  have e1 : w1.cell? ⟨w.heap.size, 1, none⟩ = some (.string n1) := blk_cell BX.out rfl
  have hsz1 : w.heap.size < w1.heap.size := blk_lt BX.out
  clear hb1 HB0
  cases hT : tokenB n0
  · go_wp2_with fail
    go_ret
    rw [cfE_name (.inl hT)]
    exact ⟨rfl, HB.out⟩
  have HT := Kp.mk hT
  clear hT
  by_cases hS : 100 < n0.size
  · go_wp2_with fail
    go_ret
    rw [cfE_name (.inr hS)]
    exact ⟨rfl, HB.out⟩
  have HS := Kp.mk hS
  go_wp2_with fail
  refine (hs_key_any n1 _ (by have := H1.out; omega)).mono ?_
  rintro e w2 ⟨rfl, hb2⟩
  unfold hsKR
  clear e0 e1
  replace BX := Kp.mk ((hb2.block _ hsz1).trans BX.out)
  replace HB := Kp.mk (HB.out.trans (hb2.mono (by omega)))
  have hsz2 : w.heap.size < w2.heap.size := blk_lt BX.out
  clear hb2 hsz1
  have e0 : w2.cell? ⟨w.heap.size, 0, none⟩ = some (.string n0) := blk_cell BX.out rfl
  have e1 : w2.cell? ⟨w.heap.size, 1, none⟩ = some (.string n1) := blk_cell BX.out rfl
  have hnum : n1.size = 0 ∨ cfBad n1 = false → Kp (cfE n0 n1 [c0, c1, c2, c3, c4, c5, c6, c7, c8, c9, c10, c11, c12, c13, c14, c15] = if cfIn [c0, c1, c2, c3, c4, c5, c6, c7, c8, c9, c10, c11, c12, c13, c14, c15] = false then 5 else 0) := fun h => Kp.mk (cfE_num HT.out HS.out h)
  have HNUM := Kp.mk hnum
  clear hnum
  rcases HW.out with rfl | ⟨hn, hk, hb⟩ | ⟨hn, hk, hq, hb⟩ | ⟨hn, hk, hq, hl, hb⟩ | ⟨hn, hk, hq, hl, hb⟩
  case inr.inl =>
    have HH := Kp.mk (cfE_host (L := [c0, c1, c2, c3, c4, c5, c6, c7, c8, c9, c10, c11, c12, c13, c14, c15]) HT.out HS.out hn hb)
    obtain ⟨hm1, hm2⟩ := cf_emp hn
    clear hb HW hn
    rw [hk]
    go_wp2_with fail
    go_ret
    rw [HH.out]
    exact ⟨rfl, HB.out⟩
  case inr.inr.inl =>
    have HH := Kp.mk (cfE_host (L := [c0, c1, c2, c3, c4, c5, c6, c7, c8, c9, c10, c11, c12, c13, c14, c15]) HT.out HS.out hn hb)
    obtain ⟨hm1, hm2⟩ := cf_emp hn
    clear hb HW hn
    rw [hk]
    go_wp2_with fail
    go_ret
    rw [HH.out]
    exact ⟨rfl, HB.out⟩
  case inr.inr.inr.inl =>
    have HH := Kp.mk (cfE_host (L := [c0, c1, c2, c3, c4, c5, c6, c7, c8, c9, c10, c11, c12, c13, c14, c15]) HT.out HS.out hn hb)
    obtain ⟨hm1, hm2⟩ := cf_emp hn
    clear hb HW hn
    rw [hk, hq]
    go_wp2_with fail
    go_ret
    rw [HH.out]
    exact ⟨rfl, HB.out⟩
  case' inl =>
    have HN := (HNUM.out (.inl rfl)).out
    clear HNUM HW
  case' inr.inr.inr.inr =>
    have HN := (HNUM.out (.inr hb)).out
    obtain ⟨hm1, hm2⟩ := cf_emp hn
    clear hb HNUM HW hn
    rw [hk, hq]
  all_goals
    replace HN := Kp.mk HN
    go_upto_region 6 with fail
    repeat ((fail_if_success (with_reducible show Oper.wp _ (Oper.mk _ (.load _ _) _ _ _ _) _ _ _ _)); go_step)
    refine wp_load_row _ _ (by rfl) w.heap.size (by rfl) _ _ _ _ BX.out Tryd.underlying25 rfl (by kernel_rfl) ?_
    simp only [Act.put]
    go_wp2_with fail
    refine (cf_numbers _ _ c0 c1 c2 c3 c4 c5 c6 c7 c8 c9 c10 c11 c12 c13 c14 c15 _).mono ?_
    rintro e w3 ⟨rfl, hb3⟩
    clear e0 e1
    go_wp2_with fail
    refine (cf_bounds _).mono ?_
    rintro e w4 ⟨rfl, hb4⟩
    have hsz3 := hb3.size
    have hsz4 := hb4.size
    replace HB := Kp.mk ((HB.out.trans (hb3.mono (by omega))).trans (hb4.mono (by omega)))
    clear hb3 hb4
    dsimp only
    have HGN := Kp.mk (show ((w4.alloc (.cells #[.int .i64 c0, .int .i64 c1, .int .i64 c2, .int .i64 c3, .int .i64 c4, .int .i64 c5, .int .i64 c6, .int .i64 c7, .int .i64 c8, .int .i64 c9, .int .i64 c10, .int .i64 c11, .int .i64 c12, .int .i64 c13, .int .i64 c14, .int .i64 c15] 33)).alloc (.cells #[.int .i64 0, .int .i64 0, .int .i64 0, .int .i64 0, .int .i64 0, .int .i64 0, .int .i64 0, .int .i64 0, .int .i64 0, .int .i64 0, .int .i64 0, .int .i64 0, .int .i64 0, .int .i64 0, .int .i64 0, .int .i64 0, .int .i64 0, .int .i64 0, .int .i64 0, .int .i64 0, .int .i64 0, .int .i64 0, .int .i64 0, .int .i64 0, .int .i64 0, .int .i64 0, .int .i64 0, .int .i64 0, .int .i64 0, .int .i64 0, .int .i64 0, .int .i64 0] 57)).heap[w4.heap.size + 1]? = some (.cells #[.int .i64 0, .int .i64 0, .int .i64 0, .int .i64 0, .int .i64 0, .int .i64 0, .int .i64 0, .int .i64 0, .int .i64 0, .int .i64 0, .int .i64 0, .int .i64 0, .int .i64 0, .int .i64 0, .int .i64 0, .int .i64 0, .int .i64 0, .int .i64 0, .int .i64 0, .int .i64 0, .int .i64 0, .int .i64 0, .int .i64 0, .int .i64 0, .int .i64 0, .int .i64 0, .int .i64 0, .int .i64 0, .int .i64 0, .int .i64 0, .int .i64 0, .int .i64 0] 57 (0, 0)) from cf_new _ _ _ (by simp))
    have HGA := Kp.mk (show ((w4.alloc (.cells #[.int .i64 c0, .int .i64 c1, .int .i64 c2, .int .i64 c3, .int .i64 c4, .int .i64 c5, .int .i64 c6, .int .i64 c7, .int .i64 c8, .int .i64 c9, .int .i64 c10, .int .i64 c11, .int .i64 c12, .int .i64 c13, .int .i64 c14, .int .i64 c15] 33)).alloc (.cells #[.int .i64 0, .int .i64 0, .int .i64 0, .int .i64 0, .int .i64 0, .int .i64 0, .int .i64 0, .int .i64 0, .int .i64 0, .int .i64 0, .int .i64 0, .int .i64 0, .int .i64 0, .int .i64 0, .int .i64 0, .int .i64 0, .int .i64 0, .int .i64 0, .int .i64 0, .int .i64 0, .int .i64 0, .int .i64 0, .int .i64 0, .int .i64 0, .int .i64 0, .int .i64 0, .int .i64 0, .int .i64 0, .int .i64 0, .int .i64 0, .int .i64 0, .int .i64 0] 57)).heap[w4.heap.size]? = some (.cells #[.int .i64 c0, .int .i64 c1, .int .i64 c2, .int .i64 c3, .int .i64 c4, .int .i64 c5, .int .i64 c6, .int .i64 c7, .int .i64 c8, .int .i64 c9, .int .i64 c10, .int .i64 c11, .int .i64 c12, .int .i64 c13, .int .i64 c14, .int .i64 c15] 33 (0, 0)) from blk_alloc (heap_alloc_new _ _))
    have HBL := Kp.mk (show Below w.heap.size w ((w4.alloc (.cells #[.int .i64 c0, .int .i64 c1, .int .i64 c2, .int .i64 c3, .int .i64 c4, .int .i64 c5, .int .i64 c6, .int .i64 c7, .int .i64 c8, .int .i64 c9, .int .i64 c10, .int .i64 c11, .int .i64 c12, .int .i64 c13, .int .i64 c14, .int .i64 c15] 33)).alloc (.cells #[.int .i64 0, .int .i64 0, .int .i64 0, .int .i64 0, .int .i64 0, .int .i64 0, .int .i64 0, .int .i64 0, .int .i64 0, .int .i64 0, .int .i64 0, .int .i64 0, .int .i64 0, .int .i64 0, .int .i64 0, .int .i64 0, .int .i64 0, .int .i64 0, .int .i64 0, .int .i64 0, .int .i64 0, .int .i64 0, .int .i64 0, .int .i64 0, .int .i64 0, .int .i64 0, .int .i64 0, .int .i64 0, .int .i64 0, .int .i64 0, .int .i64 0, .int .i64 0] 57)) from below_alF (below_alF HB.out (by omega) _) (by simp; omega) _)
    repeat ((fail_if_success (with_reducible show Oper.wp _ (Oper.mk _ (.store 57 _ _) _ _ _ _) _ _ _ _)); go_step)
    refine wp_store_row _ _ _ (by rfl) _ cfBO (by rfl) (by rfl) _ _ HGN.out (by kernel_rfl) rfl (by decide +kernel) ?_
    simp only [Act.put]
    have HN2 := Kp.mk (setRow_heap _ _ _ cfBO _ _ HGN.out)
    have HA2 := Kp.mk (show (((w4.alloc (.cells #[.int .i64 c0, .int .i64 c1, .int .i64 c2, .int .i64 c3, .int .i64 c4, .int .i64 c5, .int .i64 c6, .int .i64 c7, .int .i64 c8, .int .i64 c9, .int .i64 c10, .int .i64 c11, .int .i64 c12, .int .i64 c13, .int .i64 c14, .int .i64 c15] 33)).alloc (.cells #[.int .i64 0, .int .i64 0, .int .i64 0, .int .i64 0, .int .i64 0, .int .i64 0, .int .i64 0, .int .i64 0, .int .i64 0, .int .i64 0, .int .i64 0, .int .i64 0, .int .i64 0, .int .i64 0, .int .i64 0, .int .i64 0, .int .i64 0, .int .i64 0, .int .i64 0, .int .i64 0, .int .i64 0, .int .i64 0, .int .i64 0, .int .i64 0, .int .i64 0, .int .i64 0, .int .i64 0, .int .i64 0, .int .i64 0, .int .i64 0, .int .i64 0, .int .i64 0] 57)).setRow (w4.heap.size + 1) cfBO).heap[w4.heap.size]? = some (.cells #[.int .i64 c0, .int .i64 c1, .int .i64 c2, .int .i64 c3, .int .i64 c4, .int .i64 c5, .int .i64 c6, .int .i64 c7, .int .i64 c8, .int .i64 c9, .int .i64 c10, .int .i64 c11, .int .i64 c12, .int .i64 c13, .int .i64 c14, .int .i64 c15] 33 (0, 0)) from (cf_setRow_other _ w (by omega)).trans HGA.out)
    have HB2 := Kp.mk (below_setRow HBL.out (show w.heap.size ≤ w4.heap.size + 1 by omega) cfBO)
    generalize ((w4.alloc (.cells #[.int .i64 c0, .int .i64 c1, .int .i64 c2, .int .i64 c3, .int .i64 c4, .int .i64 c5, .int .i64 c6, .int .i64 c7, .int .i64 c8, .int .i64 c9, .int .i64 c10, .int .i64 c11, .int .i64 c12, .int .i64 c13, .int .i64 c14, .int .i64 c15] 33)).alloc (.cells #[.int .i64 0, .int .i64 0, .int .i64 0, .int .i64 0, .int .i64 0, .int .i64 0, .int .i64 0, .int .i64 0, .int .i64 0, .int .i64 0, .int .i64 0, .int .i64 0, .int .i64 0, .int .i64 0, .int .i64 0, .int .i64 0, .int .i64 0, .int .i64 0, .int .i64 0, .int .i64 0, .int .i64 0, .int .i64 0, .int .i64 0, .int .i64 0, .int .i64 0, .int .i64 0, .int .i64 0, .int .i64 0, .int .i64 0, .int .i64 0, .int .i64 0, .int .i64 0] 57)).setRow (w4.heap.size + 1) cfBO = w5 at *
    clear HGN HGA HBL HB
    have hszA := blk_lt HA2.out
    have hszB := blk_lt HN2.out
    have HLI := Kp.mk (show cfNU [c0, c1, c2, c3, c4, c5, c6, c7, c8, c9, c10, c11, c12, c13, c14, c15] = #[.int .i64 c0, .int .i64 c1, .int .i64 c2, .int .i64 c3, .int .i64 c4, .int .i64 c5, .int .i64 c6, .int .i64 c7, .int .i64 c8, .int .i64 c9, .int .i64 c10, .int .i64 c11, .int .i64 c12, .int .i64 c13, .int .i64 c14, .int .i64 c15] from rfl)
    obtain ⟨Ls, hLs⟩ : ∃ Ls : List Int, Ls = [c0, c1, c2, c3, c4, c5, c6, c7, c8, c9, c10, c11, c12, c13, c14, c15] := ⟨_, rfl⟩
    have HLL := Kp.mk (show Ls.length = 16 by rw [hLs]; rfl)
    have HN3 := Kp.mk (show cfE n0 _ [c0, c1, c2, c3, c4, c5, c6, c7, c8, c9, c10, c11, c12, c13, c14, c15] = if cfIn Ls = false then 5 else 0 from by rw [hLs]; exact HN.out)
    rw [← hLs] at HLI
    clear HN
    have HAT := Kp.mk (show ∀ (k : Nat) (wr : World), k < 16 → Below w5.heap.size w5 wr → wr.cell? ⟨w4.heap.size, k, none⟩ = some (.int .i64 (Ls.getD k 0)) from fun k wr hk hb =>
      (hb.cell (p := ⟨w4.heap.size, k, none⟩) hszA).trans (blk_cell HA2.out (by rw [← HLI.out]; exact cfNU_at Ls k (by rw [HLL.out]; exact hk))))
    have HLO := Kp.mk (show ∀ (k : Nat) (wr : World), k < 16 → Below w5.heap.size w5 wr → wr.cell? ⟨w4.heap.size + 1, k * 2, none⟩ = some (.int .i64 (cfLo k)) from fun k wr hk hb =>
      (hb.cell (p := ⟨w4.heap.size + 1, k * 2, none⟩) hszB).trans (blk_cell HN2.out (cfBO_at k hk).1))
    have HHI := Kp.mk (show ∀ (k : Nat) (wr : World), k < 16 → Below w5.heap.size w5 wr → wr.cell? ⟨w4.heap.size + 1, k * 2 + 1, none⟩ = some (.int .i64 (cfHi k)) from fun k wr hk hb =>
      (hb.cell (p := ⟨w4.heap.size + 1, k * 2 + 1, none⟩) hszB).trans (blk_cell HN2.out (cfBO_at k hk).2))
    clear hLs
    go_wp2_with fail
    go_loopw [45] (fun i wr => ∃ k : Nat, k ≤ 16 ∧ i = .int .i64 k ∧ Below w5.heap.size w5 wr ∧ Kp (∀ j, j < k → cfLo j ≤ Ls.getD j 0 ∧ Ls.getD j 0 ≤ cfHi j)) (fun i _ => 16 - (intOf i).toNat)
    case atStart => exact ⟨0, by omega, rfl, Below.refl _ _, ⟨fun j hj => by omega⟩⟩
    case round =>
      obtain ⟨k, hk, rfl, hb, hf⟩ := hrel
      have HBR := Kp.mk hb
      by_cases hlt : k < 16
      · have d0 := HAT.out k _ hlt hb
        have d1 := HLO.out k _ hlt hb
        have d2 := HHI.out k _ hlt hb
        have HNO := Kp.mk (fun h => cfIn_no (L := Ls) hlt h)
        have HFF := Kp.mk (show ∀ j, j < k + 1 → (cfLo k ≤ Ls.getD k 0 ∧ Ls.getD k 0 ≤ cfHi k) → cfLo j ≤ Ls.getD j 0 ∧ Ls.getD j 0 ≤ cfHi j from fun j hj h => by
          rcases Nat.lt_succ_iff_lt_or_eq.1 hj with hj | rfl
          · exact hf.out j hj
          · exact h)
        clear hb hf
        generalize Ls.getD k 0 = x at *
        generalize cfLo k = lo at *
        generalize cfHi k = hi at *
        have q0 : (0 : Int) ≤ (k : Int) := by omega
        have q1 : (k : Int) < 16 := by omega
        by_cases hx1 : x < lo
        · have t1 : decide (x < lo) = true := decide_eq_true hx1
          have HE := Kp.mk (HNO.out (.inl hx1))
          clear hx1
          go_wp2_with fail
          go_quiet (fail)
          go_wp2_with fail
          go_ret
          rw [HN3.out, HE.out]
          exact ⟨rfl, (HB2.out.trans (HBR.out.mono (by omega))).trans ((gdrewN _ _).mono (by have := HBR.out.size; omega))⟩
        · have t1 : decide (x < lo) = false := decide_eq_false hx1
          by_cases hx2 : hi < x
          · have t2 : decide (hi < x) = true := decide_eq_true hx2
            have HE := Kp.mk (HNO.out (.inr hx2))
            clear hx1 hx2
            go_wp2_with fail
            go_quiet (fail)
            go_wp2_with fail
            go_ret
            rw [HN3.out, HE.out]
            exact ⟨rfl, (HB2.out.trans (HBR.out.mono (by omega))).trans ((gdrewN _ _).mono (by have := HBR.out.size; omega))⟩
          · have t2 : decide (hi < x) = false := decide_eq_false hx2
            have HOK := Kp.mk (show lo ≤ x ∧ x ≤ hi by omega)
            clear hx1 hx2
            go_wp2_with fail
            go_quiet (fail)
            go_wp2_with fail
            go_roundw
            case rel => exact ⟨k + 1, by omega, by go_num, HBR.out.trans ((gdrewN _ _).mono HBR.out.size), ⟨fun j hj => HFF.out j hj HOK.out⟩⟩
            case measure => simp [intOf]; omega
      · obtain rfl : k = 16 := by omega
        have HE := Kp.mk (cfIn_yes (L := Ls) hf.out)
        clear hb hf
        go_wp2_with fail
        go_ret
        rw [HN3.out, HE.out]
        exact ⟨rfl, HB2.out.trans (HBR.out.mono (by omega))⟩
end Go.Proofs.YtggnnaafkekihaaDoor
