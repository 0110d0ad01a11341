/- Dates of fields (layer 6): Print, the program's. -/
import Derived.Test.YtgamekfickheaaaGreatDtc
import Derived.Deep.RegionHeld3
namespace Go.Proofs.YtgamekfickheaaaGreat
open Go.RowKit
set_option linter.unusedVariables false
set_option linter.unusedSimpArgs false

set_option maxRecDepth 100000 in
set_option maxHeartbeats 4000000 in
theorem hprint_any (n : Int) (w : World) (h0 : -9223372036854775808 ≤ n) (h1 : n ≤ 9223372036854775807) :
    Calls Tryz.prog 23 #[.int .i64 n] w fun e w' => e = .returned (.string (prtB n)) ∧ Below w.heap.size w w' := by
  cases hpl : placeB (n / 86400)
  · have HP := Kp.mk (show prtB n = ⟨#[]⟩ by unfold prtB; rw [hpl]; rfl)
    have HD := Kp.mk (date_any2 n w h0 h1)
    rw [hpl] at HD
    clear hpl
    go_enter Tryz.func23, Tryz.ntmps23
    go_wp2_with fail
    refine HD.out.mono ?_
    rintro e w1 ⟨rfl, hb1⟩
    go_wp2_with fail
    go_ret
    exact ⟨by rw [HP.out]; rfl, hb1.trans (((Below.refl _ _).alloc (Nat.le_refl _) _).mono hb1.size)⟩
  · have HP := Kp.mk (show prtB n = ofL (pcAcc n 18) by unfold prtB; rw [hpl]; rfl)
    have HD := Kp.mk (date_any2 n w h0 h1)
    have hrg := date_ranges n hpl
    have htr := time_ranges n
    rw [hpl] at HD
    clear hpl
    go_enter Tryz.func23, Tryz.ntmps23
    go_wp2_with fail
    refine HD.out.mono ?_
    rintro e w1 ⟨rfl, hb1⟩
    go_wp2_with fail
    rw [fixP_eq]
    have hs1 := hb1.size
    have HB1 := Kp.mk hb1
    have e1 : (w1.alloc (.cells #[.int .i64 (dyY n), .int .i64 (dyM n), .int .i64 (dyD n), .int .i64 (dH n), .int .i64 (dM n), .int .i64 (dS n)] 66)).heap.size = w1.heap.size + 1 := World.size_alloc _ _
    have HA := Kp.mk (heap_alloc_new w1 (.cells #[.int .i64 (dyY n), .int .i64 (dyM n), .int .i64 (dyD n), .int .i64 (dH n), .int .i64 (dM n), .int .i64 (dS n)] 66))
    go_loopw [] (fun wr => ∃ k : Nat, k ≤ 18 ∧ IsBd (w1.heap.size + 1) (w1.heap.size + 1) (Lib.byteCells (pcAcc n k)) wr ∧ wr.heap[w1.heap.size + 2]? = some (.stringIter fixP k) ∧ wr.heap[w1.heap.size]? = some (.cells #[.int .i64 (dyY n), .int .i64 (dyM n), .int .i64 (dyD n), .int .i64 (dH n), .int .i64 (dM n), .int .i64 (dS n)] 66 (0, 0)) ∧ Below w.heap.size w wr) (fun wr => 18 - wr.iterPos (w1.heap.size + 2))
    case atStart =>
      refine ⟨0, by omega, ?_, ?_, ?_, ?_⟩
      · have := (Lib.IsBuilderF.of (Lib.fresh_isBuilder 72 5 (w1.alloc (.cells #[.int .i64 (dyY n), .int .i64 (dyM n), .int .i64 (dyD n), .int .i64 (dH n), .int .i64 (dM n), .int .i64 (dS n)] 66)))).alloc (.stringIter fixP 0)
        rw [e1] at this
        exact this
      · have := World.iter_heap ((w1.alloc (.cells #[.int .i64 (dyY n), .int .i64 (dyM n), .int .i64 (dyD n), .int .i64 (dH n), .int .i64 (dM n), .int .i64 (dS n)] 66)).alloc (.cells #[.pointer none, .slice none 0 0] 72)) fixP 0
        rw [World.size_alloc, e1] at this
        exact this
      · exact blk_alloc (o2 := .stringIter fixP 0) (blk_alloc HA.out)
      · exact HB1.out.trans ((((Below.refl w1.heap.size w1).alloc (Nat.le_refl _) _).alloc (by rw [e1]; omega) _).alloc (by rw [World.size_alloc, e1]; omega) (.stringIter fixP 0) |>.mono hs1)
    case round =>
      obtain ⟨k, hk, hI, hit, hdt, hbw⟩ := hrel
      have HI := Kp.mk hI
      have HDT := Kp.mk hdt
      have HB := Kp.mk hbw
      have hlt2 : w1.heap.size + 2 < wr.heap.size := blk_lt hit
      have hDw : w.heap.size ≤ w1.heap.size := by omega
      clear hI hdt hbw
      by_cases hk18 : k = 18
      · subst hk18
        have hnx : ∀ ty, (Instr.next (.pointer (some ⟨w1.heap.size + 2, 0, none⟩)) true ty).run Tryz.prog wr = _ := fun ty => Lib.run_next_end_at wr (w1.heap.size + 2) fixP 18 ty hit (by decide)
        go_wp2_with fail
        refine (Tryz.Builder_String_any_k (w1.heap.size + 1) (w1.heap.size + 1) (pcAcc n 18) _ HI.out (by omega)).mono ?_
        rintro e w3 ⟨rfl, -, h2, -⟩
        go_wp2_with fail
        go_ret
        exact ⟨by rw [HP.out]; rfl, HB.out.trans (h2.mono (by omega))⟩
      rcases (by omega : k = 0 ∨ k = 1 ∨ k = 2 ∨ k = 3 ∨ k = 4 ∨ k = 5 ∨ k = 6 ∨ k = 7 ∨ k = 8 ∨ k = 9 ∨ k = 10 ∨ k = 11 ∨ k = 12 ∨ k = 13 ∨ k = 14 ∨ k = 15 ∨ k = 16 ∨ k = 17) with rfl | rfl | rfl | rfl | rfl | rfl | rfl | rfl | rfl | rfl | rfl | rfl | rfl | rfl | rfl | rfl | rfl | rfl
      · have hnx : ∀ ty, (Instr.next (.pointer (some ⟨w1.heap.size + 2, 0, none⟩)) true ty).run Tryz.prog wr = .ok (.tuple #[.bool true, .int .i64 0, .int .i32 119]) (wr.iterAt (w1.heap.size + 2) fixP 1) := fun ty => Lib.run_next_ascii_at (P := Tryz.prog) wr (w1.heap.size + 2) fixP 0 ty hit (by decide) (by decide)
        have hi0 := Lib.iterAt_heap wr (w1.heap.size + 2) fixP 0 1 hit
        have HIB := Kp.mk (HI.out.iterAt hit 1)
        have hd0 := (Lib.iterAt_other wr (w1.heap.size + 2) w1.heap.size fixP 1 (by omega)).trans HDT.out
        have HBDa := Kp.mk (Lib.below_iterAt HB.out (k := w1.heap.size + 2) (by omega) fixP 1)
        have hszi : (wr.iterAt (w1.heap.size + 2) fixP 1).heap.size = wr.heap.size := Lib.iterAt_size ..
        have hit0 := hit
        have hacl := pcAcc_len n 0
        have hix := fun w => idx_wd (wkN n) (wkN_lt n) w
        have hkl := wkN_lt n
        have hzz := (wdS_size _ (wkN_lt n))
        have hz3 : (3 : Int) ≤ ((wdS (wkN n)).size : Int) := by omega
        have H3 := Kp.mk (wd3_ext (wkN n))
        have HWK := Kp.mk (wkN_eq n)
        go_wp2_with fail
        refine (weekdays_any _).mono ?_
        rintro e w2 ⟨rfl, hb2⟩
        have hi0 := (hb2.block (w1.heap.size + 2) (by omega)).trans hi0
        have HIB2 := Kp.mk (IsBuilderF_below HIB.out hb2)
        have hd2 := (hb2.block w1.heap.size (by omega)).trans hd0
        have HBDb := Kp.mk (HBDa.out.trans (hb2.mono (by omega)))
        have hs2 := hb2.size
        go_wp2_with fail
        refine (hweek_any n _ h0 h1).mono ?_
        rintro e w9 ⟨rfl, rfl⟩
        rw [HWK.out]
        go_wp2_with fail
        rw [H3.out]
        refine (bwrite_any (w1.heap.size + 1) (w1.heap.size + 1) _ (ofL (wd3 (wkN n))) _ HIB2.out (by rw [Lib.byteCells_length, ofL_size, wd3_len _ hkl]; omega) (by omega)).mono ?_
        rw [cells_ofL]
        rintro e w3 ⟨rfl, h1, h2, h3⟩
        have hi3 := h3.iter hi0 (by omega)
        have HI3 := Kp.mk hi3
        have HB3 := Kp.mk (HBDb.out.trans (h2.mono (by omega)))
        have HR3 := Kp.mk (show IsBd (w1.heap.size + 1) (w1.heap.size + 1) (Lib.byteCells (pcAcc n 1)) w3 from .inr (by rw [show pcAcc n 1 = pcAcc n 0 ++ pcL n 0 from rfl, Lib.byteCells_append]; exact h1))
        have hd3 := (h2.block w1.heap.size (by omega)).trans hd2
        have HD3 := Kp.mk hd3
        clear h1 h2 h3 hd3
        go_wp2_with fail
        go_roundw
        case rel => exact ⟨1, by omega, HR3.out, HI3.out, HD3.out, HB3.out⟩
        case measure => simp only [World.iterPos, hi3, hit0]; omega
      · have hnx : ∀ ty, (Instr.next (.pointer (some ⟨w1.heap.size + 2, 0, none⟩)) true ty).run Tryz.prog wr = .ok (.tuple #[.bool true, .int .i64 1, .int .i32 44]) (wr.iterAt (w1.heap.size + 2) fixP 2) := fun ty => Lib.run_next_ascii_at (P := Tryz.prog) wr (w1.heap.size + 2) fixP 1 ty hit (by decide) (by decide)
        have hi0 := Lib.iterAt_heap wr (w1.heap.size + 2) fixP 1 2 hit
        have HIB := Kp.mk (HI.out.iterAt hit 2)
        have hd0 := (Lib.iterAt_other wr (w1.heap.size + 2) w1.heap.size fixP 2 (by omega)).trans HDT.out
        have HBDa := Kp.mk (Lib.below_iterAt HB.out (k := w1.heap.size + 2) (by omega) fixP 2)
        have hszi : (wr.iterAt (w1.heap.size + 2) fixP 2).heap.size = wr.heap.size := Lib.iterAt_size ..
        have hit0 := hit
        have hacl := pcAcc_len n 1
        go_wp2_with fail
        refine (brune_any (w1.heap.size + 1) (w1.heap.size + 1) _ 44 (by omega) (by omega) _ HIB.out (by rw [Lib.byteCells_length]; omega) (by omega)).mono ?_
        rw [show ([.int .u8 44] : List Value) = Lib.byteCells (pcL n 1) from rfl]
        rintro e w3 ⟨rfl, h1, h2, h3⟩
        have hi3 := h3.iter hi0 (by omega)
        have HI3 := Kp.mk hi3
        have HB3 := Kp.mk (HBDa.out.trans (h2.mono (by omega)))
        have HR3 := Kp.mk (show IsBd (w1.heap.size + 1) (w1.heap.size + 1) (Lib.byteCells (pcAcc n 2)) w3 from .inr (by rw [show pcAcc n 2 = pcAcc n 1 ++ pcL n 1 from rfl, Lib.byteCells_append]; exact h1))
        have hd3 := (h2.block w1.heap.size (by omega)).trans hd0
        have HD3 := Kp.mk hd3
        clear h1 h2 h3 hd3
        go_wp2_with fail
        go_roundw
        case rel => exact ⟨2, by omega, HR3.out, HI3.out, HD3.out, HB3.out⟩
        case measure => simp only [World.iterPos, hi3, hit0]; omega
      · have hnx : ∀ ty, (Instr.next (.pointer (some ⟨w1.heap.size + 2, 0, none⟩)) true ty).run Tryz.prog wr = .ok (.tuple #[.bool true, .int .i64 2, .int .i32 32]) (wr.iterAt (w1.heap.size + 2) fixP 3) := fun ty => Lib.run_next_ascii_at (P := Tryz.prog) wr (w1.heap.size + 2) fixP 2 ty hit (by decide) (by decide)
        have hi0 := Lib.iterAt_heap wr (w1.heap.size + 2) fixP 2 3 hit
        have HIB := Kp.mk (HI.out.iterAt hit 3)
        have hd0 := (Lib.iterAt_other wr (w1.heap.size + 2) w1.heap.size fixP 3 (by omega)).trans HDT.out
        have HBDa := Kp.mk (Lib.below_iterAt HB.out (k := w1.heap.size + 2) (by omega) fixP 3)
        have hszi : (wr.iterAt (w1.heap.size + 2) fixP 3).heap.size = wr.heap.size := Lib.iterAt_size ..
        have hit0 := hit
        have hacl := pcAcc_len n 2
        go_wp2_with fail
        refine (brune_any (w1.heap.size + 1) (w1.heap.size + 1) _ 32 (by omega) (by omega) _ HIB.out (by rw [Lib.byteCells_length]; omega) (by omega)).mono ?_
        rw [show ([.int .u8 32] : List Value) = Lib.byteCells (pcL n 2) from rfl]
        rintro e w3 ⟨rfl, h1, h2, h3⟩
        have hi3 := h3.iter hi0 (by omega)
        have HI3 := Kp.mk hi3
        have HB3 := Kp.mk (HBDa.out.trans (h2.mono (by omega)))
        have HR3 := Kp.mk (show IsBd (w1.heap.size + 1) (w1.heap.size + 1) (Lib.byteCells (pcAcc n 3)) w3 from .inr (by rw [show pcAcc n 3 = pcAcc n 2 ++ pcL n 2 from rfl, Lib.byteCells_append]; exact h1))
        have hd3 := (h2.block w1.heap.size (by omega)).trans hd0
        have HD3 := Kp.mk hd3
        clear h1 h2 h3 hd3
        go_wp2_with fail
        go_roundw
        case rel => exact ⟨3, by omega, HR3.out, HI3.out, HD3.out, HB3.out⟩
        case measure => simp only [World.iterPos, hi3, hit0]; omega
      · have hnx : ∀ ty, (Instr.next (.pointer (some ⟨w1.heap.size + 2, 0, none⟩)) true ty).run Tryz.prog wr = .ok (.tuple #[.bool true, .int .i64 3, .int .i32 100]) (wr.iterAt (w1.heap.size + 2) fixP 4) := fun ty => Lib.run_next_ascii_at (P := Tryz.prog) wr (w1.heap.size + 2) fixP 3 ty hit (by decide) (by decide)
        have hi0 := Lib.iterAt_heap wr (w1.heap.size + 2) fixP 3 4 hit
        have HIB := Kp.mk (HI.out.iterAt hit 4)
        have hd0 := (Lib.iterAt_other wr (w1.heap.size + 2) w1.heap.size fixP 4 (by omega)).trans HDT.out
        have HBDa := Kp.mk (Lib.below_iterAt HB.out (k := w1.heap.size + 2) (by omega) fixP 4)
        have hszi : (wr.iterAt (w1.heap.size + 2) fixP 4).heap.size = wr.heap.size := Lib.iterAt_size ..
        have hit0 := hit
        have hacl := pcAcc_len n 3
        have cj := blk_cell (i := 2) hd0 rfl
        have hpl := padL_len (dyD n) 2
        go_wp2_with fail
        refine (pad_any _ 2 _ (by omega) (by omega) (by omega) (by omega)).mono ?_
        rintro e w2 ⟨rfl, hb2⟩
        have hi0 := (hb2.block (w1.heap.size + 2) (by omega)).trans hi0
        have HIB2 := Kp.mk (IsBuilderF_below HIB.out hb2)
        have hd2 := (hb2.block w1.heap.size (by omega)).trans hd0
        have HBDb := Kp.mk (HBDa.out.trans (hb2.mono (by omega)))
        have hs2 := hb2.size
        go_wp2_with fail
        refine (bwrite_any (w1.heap.size + 1) (w1.heap.size + 1) _ (ofL (padL (dyD n) 2)) _ HIB2.out (by rw [Lib.byteCells_length, ofL_size]; omega) (by omega)).mono ?_
        rw [cells_ofL]
        rintro e w3 ⟨rfl, h1, h2, h3⟩
        have hi3 := h3.iter hi0 (by omega)
        have HI3 := Kp.mk hi3
        have HB3 := Kp.mk (HBDb.out.trans (h2.mono (by omega)))
        have HR3 := Kp.mk (show IsBd (w1.heap.size + 1) (w1.heap.size + 1) (Lib.byteCells (pcAcc n 4)) w3 from .inr (by rw [show pcAcc n 4 = pcAcc n 3 ++ pcL n 3 from rfl, Lib.byteCells_append]; exact h1))
        have hd3 := (h2.block w1.heap.size (by omega)).trans hd2
        have HD3 := Kp.mk hd3
        clear h1 h2 h3 hd3
        go_wp2_with fail
        go_roundw
        case rel => exact ⟨4, by omega, HR3.out, HI3.out, HD3.out, HB3.out⟩
        case measure => simp only [World.iterPos, hi3, hit0]; omega
      · have hnx : ∀ ty, (Instr.next (.pointer (some ⟨w1.heap.size + 2, 0, none⟩)) true ty).run Tryz.prog wr = .ok (.tuple #[.bool true, .int .i64 4, .int .i32 32]) (wr.iterAt (w1.heap.size + 2) fixP 5) := fun ty => Lib.run_next_ascii_at (P := Tryz.prog) wr (w1.heap.size + 2) fixP 4 ty hit (by decide) (by decide)
        have hi0 := Lib.iterAt_heap wr (w1.heap.size + 2) fixP 4 5 hit
        have HIB := Kp.mk (HI.out.iterAt hit 5)
        have hd0 := (Lib.iterAt_other wr (w1.heap.size + 2) w1.heap.size fixP 5 (by omega)).trans HDT.out
        have HBDa := Kp.mk (Lib.below_iterAt HB.out (k := w1.heap.size + 2) (by omega) fixP 5)
        have hszi : (wr.iterAt (w1.heap.size + 2) fixP 5).heap.size = wr.heap.size := Lib.iterAt_size ..
        have hit0 := hit
        have hacl := pcAcc_len n 4
        go_wp2_with fail
        refine (brune_any (w1.heap.size + 1) (w1.heap.size + 1) _ 32 (by omega) (by omega) _ HIB.out (by rw [Lib.byteCells_length]; omega) (by omega)).mono ?_
        rw [show ([.int .u8 32] : List Value) = Lib.byteCells (pcL n 4) from rfl]
        rintro e w3 ⟨rfl, h1, h2, h3⟩
        have hi3 := h3.iter hi0 (by omega)
        have HI3 := Kp.mk hi3
        have HB3 := Kp.mk (HBDa.out.trans (h2.mono (by omega)))
        have HR3 := Kp.mk (show IsBd (w1.heap.size + 1) (w1.heap.size + 1) (Lib.byteCells (pcAcc n 5)) w3 from .inr (by rw [show pcAcc n 5 = pcAcc n 4 ++ pcL n 4 from rfl, Lib.byteCells_append]; exact h1))
        have hd3 := (h2.block w1.heap.size (by omega)).trans hd0
        have HD3 := Kp.mk hd3
        clear h1 h2 h3 hd3
        go_wp2_with fail
        go_roundw
        case rel => exact ⟨5, by omega, HR3.out, HI3.out, HD3.out, HB3.out⟩
        case measure => simp only [World.iterPos, hi3, hit0]; omega
      · have hnx : ∀ ty, (Instr.next (.pointer (some ⟨w1.heap.size + 2, 0, none⟩)) true ty).run Tryz.prog wr = .ok (.tuple #[.bool true, .int .i64 5, .int .i32 98]) (wr.iterAt (w1.heap.size + 2) fixP 6) := fun ty => Lib.run_next_ascii_at (P := Tryz.prog) wr (w1.heap.size + 2) fixP 5 ty hit (by decide) (by decide)
        have hi0 := Lib.iterAt_heap wr (w1.heap.size + 2) fixP 5 6 hit
        have HIB := Kp.mk (HI.out.iterAt hit 6)
        have hd0 := (Lib.iterAt_other wr (w1.heap.size + 2) w1.heap.size fixP 6 (by omega)).trans HDT.out
        have HBDa := Kp.mk (Lib.below_iterAt HB.out (k := w1.heap.size + 2) (by omega) fixP 6)
        have hszi : (wr.iterAt (w1.heap.size + 2) fixP 6).heap.size = wr.heap.size := Lib.iterAt_size ..
        have hit0 := hit
        have hacl := pcAcc_len n 5
        have hm1 : 1 ≤ dyM n ∧ dyM n ≤ 12 := ⟨hrg.2.2.1, hrg.2.2.2.1⟩
        obtain ⟨mn, hmn, hml⟩ : ∃ mn : Nat, dyM n - 1 = (mn : Int) ∧ mn < 12 := ⟨(dyM n - 1).toNat, by omega, by omega⟩
        have hix := fun w => idx_mo mn hml w
        have hwm : IntKind.i64.wrap (mn : Int) = (mn : Int) := by first | exact wrap_small _ (by omega) (by omega) | (simp [IntKind.wrap, IntKind.signed, IntKind.bits, wrap64]; omega)
        have HPC := Kp.mk (show pcL n 5 = (moS mn).data.toList from by show (moS (dyM n - 1).toNat).data.toList = _; rw [hmn]; rfl)
        have hms := moS_le mn
        have cj := blk_cell (i := 1) hd0 rfl
        go_upto_region 13 with fail
        refine wp_region_held_drew (S := fun w' => w'.cell? ⟨w1.heap.size, 1, none⟩ = some (.int .i64 (dyM n))) (by kernel_rfl) (cj) (fun hHeld => ?_)
        refine wpAnyH_take (i := 1) (oi := ⟨some 33, .fieldAddr 66 (.tmp 3) 1, _, _, _, none⟩) (v := ?_) rfl (by kernel_rfl) (by kernel_rfl) (by kernel_rfl) (fun _ _ _ h => h) (Or.inl ⟨by rfl, ?_⟩) (by assumption) ?_
        rotate_left
        · intro w hSw
          try dsimp only at hSw
          go_simp
          try with_reducible rfl
        try simp only [Act.put, List.setIfInBounds_toArray, List.set_cons_zero, List.set_cons_succ]
        refine wpAnyH_take (i := 2) (oi := ⟨some 34, .load 3 (.tmp 33), _, _, _, none⟩) (v := ?_) rfl (by kernel_rfl) (by kernel_rfl) (by kernel_rfl) (fun _ _ _ h => h) (Or.inl ⟨by rfl, ?_⟩) (by assumption) ?_
        rotate_left
        · intro w hSw
          try dsimp only at hSw
          go_simp
          try with_reducible rfl
        try simp only [Act.put, List.setIfInBounds_toArray, List.set_cons_zero, List.set_cons_succ]
        refine wpAnyH_take (i := 3) (oi := ⟨some 35, .binOp .sub 3 (.tmp 34) (.const (.int .i64 1)) 3, _, _, _, none⟩) (v := ?_) rfl (by kernel_rfl) (by kernel_rfl) (by kernel_rfl) (fun _ _ _ h => h) (Or.inl ⟨by rfl, ?_⟩) (by assumption) ?_
        rotate_left
        · intro w hSw
          try dsimp only at hSw
          go_simp
          try with_reducible rfl
        try simp only [Act.put, List.setIfInBounds_toArray, List.set_cons_zero, List.set_cons_succ]
        refine wpAnyH_ready (rs := [0]) (by kernel_rfl) (by simp) ?_
        refine AllReadyH.cons (o := ⟨some 32, _, _, _, _, none⟩) rfl (fun K hK => ?_) AllReadyH.nil
        go_simp
        (go_at_call 48; refine (months_any _).mono ?_; rintro e w2 ⟨rfl, hb2⟩)
        have hi2 := (hb2.block (w1.heap.size + 2) (by simp; omega)).trans hi0
        have HIB2 := Kp.mk (IsBuilderF_below (show IsBd (w1.heap.size + 1) (w1.heap.size + 1) _ (World.drew _) from HIB.out.elim (fun x => .inl x.drew) (fun x => .inr x.drew)) hb2)
        have hd2 := (hb2.block w1.heap.size (by simp; omega)).trans hd0
        have HBDb := Kp.mk (HBDa.out.trans ((Below.refl _ _).drew.trans (hb2.mono (by simp; omega))))
        have hs2 := hb2.size
        try go_wp2_with fail
        refine hK.out _ _ (blk_cell (i := 1) hd2 rfl) (fun hHeld2 => ?_)
        clear hK K
        try simp only [Act.put, List.setIfInBounds_toArray, List.set_cons_zero, List.set_cons_succ]
        refine wpAnyH_take (i := 4) (oi := ⟨some 36, .index 80 (.tmp 32) (.tmp 35), _, _, _, none⟩) (v := ?_) rfl (by kernel_rfl) (by kernel_rfl) (by kernel_rfl) (fun _ _ _ h => h) (Or.inl ⟨by rfl, ?_⟩) (by assumption) ?_
        rotate_left
        · intro w hSw
          try dsimp only at hSw
          go_simp
          try with_reducible rfl
        try simp only [Act.put, List.setIfInBounds_toArray, List.set_cons_zero, List.set_cons_succ]
        refine wpAnyH_ready (rs := [5]) (by kernel_rfl) (by simp) ?_
        refine AllReadyH.cons (o := ⟨some 37, _, _, _, _, none⟩) rfl (fun K hK => ?_) AllReadyH.nil
        go_simp
        (go_at_call 45; refine (bwrite_any (w1.heap.size + 1) (w1.heap.size + 1) _ (moS mn) _ HIB2.out (by rw [Lib.byteCells_length]; omega) (by simp at hs2; omega)).mono ?_; rintro e w3 ⟨rfl, h1, h2, h3⟩)
        have hi3 := h3.iter hi2 (by omega)
        have HI3 := Kp.mk hi3
        have HB3 := Kp.mk (HBDb.out.trans (h2.mono (by omega)))
        have HR3 := Kp.mk (show IsBd (w1.heap.size + 1) (w1.heap.size + 1) (Lib.byteCells (pcAcc n 6)) w3 from .inr (by rw [show pcAcc n 6 = pcAcc n 5 ++ pcL n 5 from rfl, Lib.byteCells_append, HPC.out]; exact h1))
        have hd3 := (h2.block w1.heap.size (by omega)).trans hd2
        have HD3 := Kp.mk hd3
        try go_wp2_with fail
        refine hK.out _ _ (blk_cell (i := 1) hd3 rfl) (fun hHeld2 => ?_)
        clear hK K
        try simp only [Act.put, List.setIfInBounds_toArray, List.set_cons_zero, List.set_cons_succ]
        refine wpAnyH_done (by kernel_rfl) ?_ _
        go_wp2_with fail
        go_roundw
        case rel => exact ⟨6, by omega, HR3.out, HI3.out, HD3.out, HB3.out⟩
        case measure => simp only [World.iterPos, HI3.out, hit0]; omega
      · have hnx : ∀ ty, (Instr.next (.pointer (some ⟨w1.heap.size + 2, 0, none⟩)) true ty).run Tryz.prog wr = .ok (.tuple #[.bool true, .int .i64 6, .int .i32 32]) (wr.iterAt (w1.heap.size + 2) fixP 7) := fun ty => Lib.run_next_ascii_at (P := Tryz.prog) wr (w1.heap.size + 2) fixP 6 ty hit (by decide) (by decide)
        have hi0 := Lib.iterAt_heap wr (w1.heap.size + 2) fixP 6 7 hit
        have HIB := Kp.mk (HI.out.iterAt hit 7)
        have hd0 := (Lib.iterAt_other wr (w1.heap.size + 2) w1.heap.size fixP 7 (by omega)).trans HDT.out
        have HBDa := Kp.mk (Lib.below_iterAt HB.out (k := w1.heap.size + 2) (by omega) fixP 7)
        have hszi : (wr.iterAt (w1.heap.size + 2) fixP 7).heap.size = wr.heap.size := Lib.iterAt_size ..
        have hit0 := hit
        have hacl := pcAcc_len n 6
        go_wp2_with fail
        refine (brune_any (w1.heap.size + 1) (w1.heap.size + 1) _ 32 (by omega) (by omega) _ HIB.out (by rw [Lib.byteCells_length]; omega) (by omega)).mono ?_
        rw [show ([.int .u8 32] : List Value) = Lib.byteCells (pcL n 6) from rfl]
        rintro e w3 ⟨rfl, h1, h2, h3⟩
        have hi3 := h3.iter hi0 (by omega)
        have HI3 := Kp.mk hi3
        have HB3 := Kp.mk (HBDa.out.trans (h2.mono (by omega)))
        have HR3 := Kp.mk (show IsBd (w1.heap.size + 1) (w1.heap.size + 1) (Lib.byteCells (pcAcc n 7)) w3 from .inr (by rw [show pcAcc n 7 = pcAcc n 6 ++ pcL n 6 from rfl, Lib.byteCells_append]; exact h1))
        have hd3 := (h2.block w1.heap.size (by omega)).trans hd0
        have HD3 := Kp.mk hd3
        clear h1 h2 h3 hd3
        go_wp2_with fail
        go_roundw
        case rel => exact ⟨7, by omega, HR3.out, HI3.out, HD3.out, HB3.out⟩
        case measure => simp only [World.iterPos, hi3, hit0]; omega
      · have hnx : ∀ ty, (Instr.next (.pointer (some ⟨w1.heap.size + 2, 0, none⟩)) true ty).run Tryz.prog wr = .ok (.tuple #[.bool true, .int .i64 7, .int .i32 121]) (wr.iterAt (w1.heap.size + 2) fixP 8) := fun ty => Lib.run_next_ascii_at (P := Tryz.prog) wr (w1.heap.size + 2) fixP 7 ty hit (by decide) (by decide)
        have hi0 := Lib.iterAt_heap wr (w1.heap.size + 2) fixP 7 8 hit
        have HIB := Kp.mk (HI.out.iterAt hit 8)
        have hd0 := (Lib.iterAt_other wr (w1.heap.size + 2) w1.heap.size fixP 8 (by omega)).trans HDT.out
        have HBDa := Kp.mk (Lib.below_iterAt HB.out (k := w1.heap.size + 2) (by omega) fixP 8)
        have hszi : (wr.iterAt (w1.heap.size + 2) fixP 8).heap.size = wr.heap.size := Lib.iterAt_size ..
        have hit0 := hit
        have hacl := pcAcc_len n 7
        have cj := blk_cell (i := 0) hd0 rfl
        have hpl := padL_len (dyY n) 4
        go_wp2_with fail
        refine (pad_any _ 4 _ (by omega) (by omega) (by omega) (by omega)).mono ?_
        rintro e w2 ⟨rfl, hb2⟩
        have hi0 := (hb2.block (w1.heap.size + 2) (by omega)).trans hi0
        have HIB2 := Kp.mk (IsBuilderF_below HIB.out hb2)
        have hd2 := (hb2.block w1.heap.size (by omega)).trans hd0
        have HBDb := Kp.mk (HBDa.out.trans (hb2.mono (by omega)))
        have hs2 := hb2.size
        go_wp2_with fail
        refine (bwrite_any (w1.heap.size + 1) (w1.heap.size + 1) _ (ofL (padL (dyY n) 4)) _ HIB2.out (by rw [Lib.byteCells_length, ofL_size]; omega) (by omega)).mono ?_
        rw [cells_ofL]
        rintro e w3 ⟨rfl, h1, h2, h3⟩
        have hi3 := h3.iter hi0 (by omega)
        have HI3 := Kp.mk hi3
        have HB3 := Kp.mk (HBDb.out.trans (h2.mono (by omega)))
        have HR3 := Kp.mk (show IsBd (w1.heap.size + 1) (w1.heap.size + 1) (Lib.byteCells (pcAcc n 8)) w3 from .inr (by rw [show pcAcc n 8 = pcAcc n 7 ++ pcL n 7 from rfl, Lib.byteCells_append]; exact h1))
        have hd3 := (h2.block w1.heap.size (by omega)).trans hd2
        have HD3 := Kp.mk hd3
        clear h1 h2 h3 hd3
        go_wp2_with fail
        go_roundw
        case rel => exact ⟨8, by omega, HR3.out, HI3.out, HD3.out, HB3.out⟩
        case measure => simp only [World.iterPos, hi3, hit0]; omega
      · have hnx : ∀ ty, (Instr.next (.pointer (some ⟨w1.heap.size + 2, 0, none⟩)) true ty).run Tryz.prog wr = .ok (.tuple #[.bool true, .int .i64 8, .int .i32 32]) (wr.iterAt (w1.heap.size + 2) fixP 9) := fun ty => Lib.run_next_ascii_at (P := Tryz.prog) wr (w1.heap.size + 2) fixP 8 ty hit (by decide) (by decide)
        have hi0 := Lib.iterAt_heap wr (w1.heap.size + 2) fixP 8 9 hit
        have HIB := Kp.mk (HI.out.iterAt hit 9)
        have hd0 := (Lib.iterAt_other wr (w1.heap.size + 2) w1.heap.size fixP 9 (by omega)).trans HDT.out
        have HBDa := Kp.mk (Lib.below_iterAt HB.out (k := w1.heap.size + 2) (by omega) fixP 9)
        have hszi : (wr.iterAt (w1.heap.size + 2) fixP 9).heap.size = wr.heap.size := Lib.iterAt_size ..
        have hit0 := hit
        have hacl := pcAcc_len n 8
        go_wp2_with fail
        refine (brune_any (w1.heap.size + 1) (w1.heap.size + 1) _ 32 (by omega) (by omega) _ HIB.out (by rw [Lib.byteCells_length]; omega) (by omega)).mono ?_
        rw [show ([.int .u8 32] : List Value) = Lib.byteCells (pcL n 8) from rfl]
        rintro e w3 ⟨rfl, h1, h2, h3⟩
        have hi3 := h3.iter hi0 (by omega)
        have HI3 := Kp.mk hi3
        have HB3 := Kp.mk (HBDa.out.trans (h2.mono (by omega)))
        have HR3 := Kp.mk (show IsBd (w1.heap.size + 1) (w1.heap.size + 1) (Lib.byteCells (pcAcc n 9)) w3 from .inr (by rw [show pcAcc n 9 = pcAcc n 8 ++ pcL n 8 from rfl, Lib.byteCells_append]; exact h1))
        have hd3 := (h2.block w1.heap.size (by omega)).trans hd0
        have HD3 := Kp.mk hd3
        clear h1 h2 h3 hd3
        go_wp2_with fail
        go_roundw
        case rel => exact ⟨9, by omega, HR3.out, HI3.out, HD3.out, HB3.out⟩
        case measure => simp only [World.iterPos, hi3, hit0]; omega
      · have hnx : ∀ ty, (Instr.next (.pointer (some ⟨w1.heap.size + 2, 0, none⟩)) true ty).run Tryz.prog wr = .ok (.tuple #[.bool true, .int .i64 9, .int .i32 104]) (wr.iterAt (w1.heap.size + 2) fixP 10) := fun ty => Lib.run_next_ascii_at (P := Tryz.prog) wr (w1.heap.size + 2) fixP 9 ty hit (by decide) (by decide)
        have hi0 := Lib.iterAt_heap wr (w1.heap.size + 2) fixP 9 10 hit
        have HIB := Kp.mk (HI.out.iterAt hit 10)
        have hd0 := (Lib.iterAt_other wr (w1.heap.size + 2) w1.heap.size fixP 10 (by omega)).trans HDT.out
        have HBDa := Kp.mk (Lib.below_iterAt HB.out (k := w1.heap.size + 2) (by omega) fixP 10)
        have hszi : (wr.iterAt (w1.heap.size + 2) fixP 10).heap.size = wr.heap.size := Lib.iterAt_size ..
        have hit0 := hit
        have hacl := pcAcc_len n 9
        have cj := blk_cell (i := 3) hd0 rfl
        have hpl := padL_len (dH n) 2
        go_wp2_with fail
        refine (pad_any _ 2 _ (by omega) (by omega) (by omega) (by omega)).mono ?_
        rintro e w2 ⟨rfl, hb2⟩
        have hi0 := (hb2.block (w1.heap.size + 2) (by omega)).trans hi0
        have HIB2 := Kp.mk (IsBuilderF_below HIB.out hb2)
        have hd2 := (hb2.block w1.heap.size (by omega)).trans hd0
        have HBDb := Kp.mk (HBDa.out.trans (hb2.mono (by omega)))
        have hs2 := hb2.size
        go_wp2_with fail
        refine (bwrite_any (w1.heap.size + 1) (w1.heap.size + 1) _ (ofL (padL (dH n) 2)) _ HIB2.out (by rw [Lib.byteCells_length, ofL_size]; omega) (by omega)).mono ?_
        rw [cells_ofL]
        rintro e w3 ⟨rfl, h1, h2, h3⟩
        have hi3 := h3.iter hi0 (by omega)
        have HI3 := Kp.mk hi3
        have HB3 := Kp.mk (HBDb.out.trans (h2.mono (by omega)))
        have HR3 := Kp.mk (show IsBd (w1.heap.size + 1) (w1.heap.size + 1) (Lib.byteCells (pcAcc n 10)) w3 from .inr (by rw [show pcAcc n 10 = pcAcc n 9 ++ pcL n 9 from rfl, Lib.byteCells_append]; exact h1))
        have hd3 := (h2.block w1.heap.size (by omega)).trans hd2
        have HD3 := Kp.mk hd3
        clear h1 h2 h3 hd3
        go_wp2_with fail
        go_roundw
        case rel => exact ⟨10, by omega, HR3.out, HI3.out, HD3.out, HB3.out⟩
        case measure => simp only [World.iterPos, hi3, hit0]; omega
      · have hnx : ∀ ty, (Instr.next (.pointer (some ⟨w1.heap.size + 2, 0, none⟩)) true ty).run Tryz.prog wr = .ok (.tuple #[.bool true, .int .i64 10, .int .i32 58]) (wr.iterAt (w1.heap.size + 2) fixP 11) := fun ty => Lib.run_next_ascii_at (P := Tryz.prog) wr (w1.heap.size + 2) fixP 10 ty hit (by decide) (by decide)
        have hi0 := Lib.iterAt_heap wr (w1.heap.size + 2) fixP 10 11 hit
        have HIB := Kp.mk (HI.out.iterAt hit 11)
        have hd0 := (Lib.iterAt_other wr (w1.heap.size + 2) w1.heap.size fixP 11 (by omega)).trans HDT.out
        have HBDa := Kp.mk (Lib.below_iterAt HB.out (k := w1.heap.size + 2) (by omega) fixP 11)
        have hszi : (wr.iterAt (w1.heap.size + 2) fixP 11).heap.size = wr.heap.size := Lib.iterAt_size ..
        have hit0 := hit
        have hacl := pcAcc_len n 10
        go_wp2_with fail
        refine (brune_any (w1.heap.size + 1) (w1.heap.size + 1) _ 58 (by omega) (by omega) _ HIB.out (by rw [Lib.byteCells_length]; omega) (by omega)).mono ?_
        rw [show ([.int .u8 58] : List Value) = Lib.byteCells (pcL n 10) from rfl]
        rintro e w3 ⟨rfl, h1, h2, h3⟩
        have hi3 := h3.iter hi0 (by omega)
        have HI3 := Kp.mk hi3
        have HB3 := Kp.mk (HBDa.out.trans (h2.mono (by omega)))
        have HR3 := Kp.mk (show IsBd (w1.heap.size + 1) (w1.heap.size + 1) (Lib.byteCells (pcAcc n 11)) w3 from .inr (by rw [show pcAcc n 11 = pcAcc n 10 ++ pcL n 10 from rfl, Lib.byteCells_append]; exact h1))
        have hd3 := (h2.block w1.heap.size (by omega)).trans hd0
        have HD3 := Kp.mk hd3
        clear h1 h2 h3 hd3
        go_wp2_with fail
        go_roundw
        case rel => exact ⟨11, by omega, HR3.out, HI3.out, HD3.out, HB3.out⟩
        case measure => simp only [World.iterPos, hi3, hit0]; omega
      · have hnx : ∀ ty, (Instr.next (.pointer (some ⟨w1.heap.size + 2, 0, none⟩)) true ty).run Tryz.prog wr = .ok (.tuple #[.bool true, .int .i64 11, .int .i32 105]) (wr.iterAt (w1.heap.size + 2) fixP 12) := fun ty => Lib.run_next_ascii_at (P := Tryz.prog) wr (w1.heap.size + 2) fixP 11 ty hit (by decide) (by decide)
        have hi0 := Lib.iterAt_heap wr (w1.heap.size + 2) fixP 11 12 hit
        have HIB := Kp.mk (HI.out.iterAt hit 12)
        have hd0 := (Lib.iterAt_other wr (w1.heap.size + 2) w1.heap.size fixP 12 (by omega)).trans HDT.out
        have HBDa := Kp.mk (Lib.below_iterAt HB.out (k := w1.heap.size + 2) (by omega) fixP 12)
        have hszi : (wr.iterAt (w1.heap.size + 2) fixP 12).heap.size = wr.heap.size := Lib.iterAt_size ..
        have hit0 := hit
        have hacl := pcAcc_len n 11
        have cj := blk_cell (i := 4) hd0 rfl
        have hpl := padL_len (dM n) 2
        go_wp2_with fail
        refine (pad_any _ 2 _ (by omega) (by omega) (by omega) (by omega)).mono ?_
        rintro e w2 ⟨rfl, hb2⟩
        have hi0 := (hb2.block (w1.heap.size + 2) (by omega)).trans hi0
        have HIB2 := Kp.mk (IsBuilderF_below HIB.out hb2)
        have hd2 := (hb2.block w1.heap.size (by omega)).trans hd0
        have HBDb := Kp.mk (HBDa.out.trans (hb2.mono (by omega)))
        have hs2 := hb2.size
        go_wp2_with fail
        refine (bwrite_any (w1.heap.size + 1) (w1.heap.size + 1) _ (ofL (padL (dM n) 2)) _ HIB2.out (by rw [Lib.byteCells_length, ofL_size]; omega) (by omega)).mono ?_
        rw [cells_ofL]
        rintro e w3 ⟨rfl, h1, h2, h3⟩
        have hi3 := h3.iter hi0 (by omega)
        have HI3 := Kp.mk hi3
        have HB3 := Kp.mk (HBDb.out.trans (h2.mono (by omega)))
        have HR3 := Kp.mk (show IsBd (w1.heap.size + 1) (w1.heap.size + 1) (Lib.byteCells (pcAcc n 12)) w3 from .inr (by rw [show pcAcc n 12 = pcAcc n 11 ++ pcL n 11 from rfl, Lib.byteCells_append]; exact h1))
        have hd3 := (h2.block w1.heap.size (by omega)).trans hd2
        have HD3 := Kp.mk hd3
        clear h1 h2 h3 hd3
        go_wp2_with fail
        go_roundw
        case rel => exact ⟨12, by omega, HR3.out, HI3.out, HD3.out, HB3.out⟩
        case measure => simp only [World.iterPos, hi3, hit0]; omega
      · have hnx : ∀ ty, (Instr.next (.pointer (some ⟨w1.heap.size + 2, 0, none⟩)) true ty).run Tryz.prog wr = .ok (.tuple #[.bool true, .int .i64 12, .int .i32 58]) (wr.iterAt (w1.heap.size + 2) fixP 13) := fun ty => Lib.run_next_ascii_at (P := Tryz.prog) wr (w1.heap.size + 2) fixP 12 ty hit (by decide) (by decide)
        have hi0 := Lib.iterAt_heap wr (w1.heap.size + 2) fixP 12 13 hit
        have HIB := Kp.mk (HI.out.iterAt hit 13)
        have hd0 := (Lib.iterAt_other wr (w1.heap.size + 2) w1.heap.size fixP 13 (by omega)).trans HDT.out
        have HBDa := Kp.mk (Lib.below_iterAt HB.out (k := w1.heap.size + 2) (by omega) fixP 13)
        have hszi : (wr.iterAt (w1.heap.size + 2) fixP 13).heap.size = wr.heap.size := Lib.iterAt_size ..
        have hit0 := hit
        have hacl := pcAcc_len n 12
        go_wp2_with fail
        refine (brune_any (w1.heap.size + 1) (w1.heap.size + 1) _ 58 (by omega) (by omega) _ HIB.out (by rw [Lib.byteCells_length]; omega) (by omega)).mono ?_
        rw [show ([.int .u8 58] : List Value) = Lib.byteCells (pcL n 12) from rfl]
        rintro e w3 ⟨rfl, h1, h2, h3⟩
        have hi3 := h3.iter hi0 (by omega)
        have HI3 := Kp.mk hi3
        have HB3 := Kp.mk (HBDa.out.trans (h2.mono (by omega)))
        have HR3 := Kp.mk (show IsBd (w1.heap.size + 1) (w1.heap.size + 1) (Lib.byteCells (pcAcc n 13)) w3 from .inr (by rw [show pcAcc n 13 = pcAcc n 12 ++ pcL n 12 from rfl, Lib.byteCells_append]; exact h1))
        have hd3 := (h2.block w1.heap.size (by omega)).trans hd0
        have HD3 := Kp.mk hd3
        clear h1 h2 h3 hd3
        go_wp2_with fail
        go_roundw
        case rel => exact ⟨13, by omega, HR3.out, HI3.out, HD3.out, HB3.out⟩
        case measure => simp only [World.iterPos, hi3, hit0]; omega
      · have hnx : ∀ ty, (Instr.next (.pointer (some ⟨w1.heap.size + 2, 0, none⟩)) true ty).run Tryz.prog wr = .ok (.tuple #[.bool true, .int .i64 13, .int .i32 115]) (wr.iterAt (w1.heap.size + 2) fixP 14) := fun ty => Lib.run_next_ascii_at (P := Tryz.prog) wr (w1.heap.size + 2) fixP 13 ty hit (by decide) (by decide)
        have hi0 := Lib.iterAt_heap wr (w1.heap.size + 2) fixP 13 14 hit
        have HIB := Kp.mk (HI.out.iterAt hit 14)
        have hd0 := (Lib.iterAt_other wr (w1.heap.size + 2) w1.heap.size fixP 14 (by omega)).trans HDT.out
        have HBDa := Kp.mk (Lib.below_iterAt HB.out (k := w1.heap.size + 2) (by omega) fixP 14)
        have hszi : (wr.iterAt (w1.heap.size + 2) fixP 14).heap.size = wr.heap.size := Lib.iterAt_size ..
        have hit0 := hit
        have hacl := pcAcc_len n 13
        have cj := blk_cell (i := 5) hd0 rfl
        have hpl := padL_len (dS n) 2
        go_wp2_with fail
        refine (pad_any _ 2 _ (by omega) (by omega) (by omega) (by omega)).mono ?_
        rintro e w2 ⟨rfl, hb2⟩
        have hi0 := (hb2.block (w1.heap.size + 2) (by omega)).trans hi0
        have HIB2 := Kp.mk (IsBuilderF_below HIB.out hb2)
        have hd2 := (hb2.block w1.heap.size (by omega)).trans hd0
        have HBDb := Kp.mk (HBDa.out.trans (hb2.mono (by omega)))
        have hs2 := hb2.size
        go_wp2_with fail
        refine (bwrite_any (w1.heap.size + 1) (w1.heap.size + 1) _ (ofL (padL (dS n) 2)) _ HIB2.out (by rw [Lib.byteCells_length, ofL_size]; omega) (by omega)).mono ?_
        rw [cells_ofL]
        rintro e w3 ⟨rfl, h1, h2, h3⟩
        have hi3 := h3.iter hi0 (by omega)
        have HI3 := Kp.mk hi3
        have HB3 := Kp.mk (HBDb.out.trans (h2.mono (by omega)))
        have HR3 := Kp.mk (show IsBd (w1.heap.size + 1) (w1.heap.size + 1) (Lib.byteCells (pcAcc n 14)) w3 from .inr (by rw [show pcAcc n 14 = pcAcc n 13 ++ pcL n 13 from rfl, Lib.byteCells_append]; exact h1))
        have hd3 := (h2.block w1.heap.size (by omega)).trans hd2
        have HD3 := Kp.mk hd3
        clear h1 h2 h3 hd3
        go_wp2_with fail
        go_roundw
        case rel => exact ⟨14, by omega, HR3.out, HI3.out, HD3.out, HB3.out⟩
        case measure => simp only [World.iterPos, hi3, hit0]; omega
      · have hnx : ∀ ty, (Instr.next (.pointer (some ⟨w1.heap.size + 2, 0, none⟩)) true ty).run Tryz.prog wr = .ok (.tuple #[.bool true, .int .i64 14, .int .i32 32]) (wr.iterAt (w1.heap.size + 2) fixP 15) := fun ty => Lib.run_next_ascii_at (P := Tryz.prog) wr (w1.heap.size + 2) fixP 14 ty hit (by decide) (by decide)
        have hi0 := Lib.iterAt_heap wr (w1.heap.size + 2) fixP 14 15 hit
        have HIB := Kp.mk (HI.out.iterAt hit 15)
        have hd0 := (Lib.iterAt_other wr (w1.heap.size + 2) w1.heap.size fixP 15 (by omega)).trans HDT.out
        have HBDa := Kp.mk (Lib.below_iterAt HB.out (k := w1.heap.size + 2) (by omega) fixP 15)
        have hszi : (wr.iterAt (w1.heap.size + 2) fixP 15).heap.size = wr.heap.size := Lib.iterAt_size ..
        have hit0 := hit
        have hacl := pcAcc_len n 14
        go_wp2_with fail
        refine (brune_any (w1.heap.size + 1) (w1.heap.size + 1) _ 32 (by omega) (by omega) _ HIB.out (by rw [Lib.byteCells_length]; omega) (by omega)).mono ?_
        rw [show ([.int .u8 32] : List Value) = Lib.byteCells (pcL n 14) from rfl]
        rintro e w3 ⟨rfl, h1, h2, h3⟩
        have hi3 := h3.iter hi0 (by omega)
        have HI3 := Kp.mk hi3
        have HB3 := Kp.mk (HBDa.out.trans (h2.mono (by omega)))
        have HR3 := Kp.mk (show IsBd (w1.heap.size + 1) (w1.heap.size + 1) (Lib.byteCells (pcAcc n 15)) w3 from .inr (by rw [show pcAcc n 15 = pcAcc n 14 ++ pcL n 14 from rfl, Lib.byteCells_append]; exact h1))
        have hd3 := (h2.block w1.heap.size (by omega)).trans hd0
        have HD3 := Kp.mk hd3
        clear h1 h2 h3 hd3
        go_wp2_with fail
        go_roundw
        case rel => exact ⟨15, by omega, HR3.out, HI3.out, HD3.out, HB3.out⟩
        case measure => simp only [World.iterPos, hi3, hit0]; omega
      · have hnx : ∀ ty, (Instr.next (.pointer (some ⟨w1.heap.size + 2, 0, none⟩)) true ty).run Tryz.prog wr = .ok (.tuple #[.bool true, .int .i64 15, .int .i32 71]) (wr.iterAt (w1.heap.size + 2) fixP 16) := fun ty => Lib.run_next_ascii_at (P := Tryz.prog) wr (w1.heap.size + 2) fixP 15 ty hit (by decide) (by decide)
        have hi0 := Lib.iterAt_heap wr (w1.heap.size + 2) fixP 15 16 hit
        have HIB := Kp.mk (HI.out.iterAt hit 16)
        have hd0 := (Lib.iterAt_other wr (w1.heap.size + 2) w1.heap.size fixP 16 (by omega)).trans HDT.out
        have HBDa := Kp.mk (Lib.below_iterAt HB.out (k := w1.heap.size + 2) (by omega) fixP 16)
        have hszi : (wr.iterAt (w1.heap.size + 2) fixP 16).heap.size = wr.heap.size := Lib.iterAt_size ..
        have hit0 := hit
        have hacl := pcAcc_len n 15
        go_wp2_with fail
        refine (brune_any (w1.heap.size + 1) (w1.heap.size + 1) _ 71 (by omega) (by omega) _ HIB.out (by rw [Lib.byteCells_length]; omega) (by omega)).mono ?_
        rw [show ([.int .u8 71] : List Value) = Lib.byteCells (pcL n 15) from rfl]
        rintro e w3 ⟨rfl, h1, h2, h3⟩
        have hi3 := h3.iter hi0 (by omega)
        have HI3 := Kp.mk hi3
        have HB3 := Kp.mk (HBDa.out.trans (h2.mono (by omega)))
        have HR3 := Kp.mk (show IsBd (w1.heap.size + 1) (w1.heap.size + 1) (Lib.byteCells (pcAcc n 16)) w3 from .inr (by rw [show pcAcc n 16 = pcAcc n 15 ++ pcL n 15 from rfl, Lib.byteCells_append]; exact h1))
        have hd3 := (h2.block w1.heap.size (by omega)).trans hd0
        have HD3 := Kp.mk hd3
        clear h1 h2 h3 hd3
        go_wp2_with fail
        go_roundw
        case rel => exact ⟨16, by omega, HR3.out, HI3.out, HD3.out, HB3.out⟩
        case measure => simp only [World.iterPos, hi3, hit0]; omega
      · have hnx : ∀ ty, (Instr.next (.pointer (some ⟨w1.heap.size + 2, 0, none⟩)) true ty).run Tryz.prog wr = .ok (.tuple #[.bool true, .int .i64 16, .int .i32 77]) (wr.iterAt (w1.heap.size + 2) fixP 17) := fun ty => Lib.run_next_ascii_at (P := Tryz.prog) wr (w1.heap.size + 2) fixP 16 ty hit (by decide) (by decide)
        have hi0 := Lib.iterAt_heap wr (w1.heap.size + 2) fixP 16 17 hit
        have HIB := Kp.mk (HI.out.iterAt hit 17)
        have hd0 := (Lib.iterAt_other wr (w1.heap.size + 2) w1.heap.size fixP 17 (by omega)).trans HDT.out
        have HBDa := Kp.mk (Lib.below_iterAt HB.out (k := w1.heap.size + 2) (by omega) fixP 17)
        have hszi : (wr.iterAt (w1.heap.size + 2) fixP 17).heap.size = wr.heap.size := Lib.iterAt_size ..
        have hit0 := hit
        have hacl := pcAcc_len n 16
        go_wp2_with fail
        refine (brune_any (w1.heap.size + 1) (w1.heap.size + 1) _ 77 (by omega) (by omega) _ HIB.out (by rw [Lib.byteCells_length]; omega) (by omega)).mono ?_
        rw [show ([.int .u8 77] : List Value) = Lib.byteCells (pcL n 16) from rfl]
        rintro e w3 ⟨rfl, h1, h2, h3⟩
        have hi3 := h3.iter hi0 (by omega)
        have HI3 := Kp.mk hi3
        have HB3 := Kp.mk (HBDa.out.trans (h2.mono (by omega)))
        have HR3 := Kp.mk (show IsBd (w1.heap.size + 1) (w1.heap.size + 1) (Lib.byteCells (pcAcc n 17)) w3 from .inr (by rw [show pcAcc n 17 = pcAcc n 16 ++ pcL n 16 from rfl, Lib.byteCells_append]; exact h1))
        have hd3 := (h2.block w1.heap.size (by omega)).trans hd0
        have HD3 := Kp.mk hd3
        clear h1 h2 h3 hd3
        go_wp2_with fail
        go_roundw
        case rel => exact ⟨17, by omega, HR3.out, HI3.out, HD3.out, HB3.out⟩
        case measure => simp only [World.iterPos, hi3, hit0]; omega
      · have hnx : ∀ ty, (Instr.next (.pointer (some ⟨w1.heap.size + 2, 0, none⟩)) true ty).run Tryz.prog wr = .ok (.tuple #[.bool true, .int .i64 17, .int .i32 84]) (wr.iterAt (w1.heap.size + 2) fixP 18) := fun ty => Lib.run_next_ascii_at (P := Tryz.prog) wr (w1.heap.size + 2) fixP 17 ty hit (by decide) (by decide)
        have hi0 := Lib.iterAt_heap wr (w1.heap.size + 2) fixP 17 18 hit
        have HIB := Kp.mk (HI.out.iterAt hit 18)
        have hd0 := (Lib.iterAt_other wr (w1.heap.size + 2) w1.heap.size fixP 18 (by omega)).trans HDT.out
        have HBDa := Kp.mk (Lib.below_iterAt HB.out (k := w1.heap.size + 2) (by omega) fixP 18)
        have hszi : (wr.iterAt (w1.heap.size + 2) fixP 18).heap.size = wr.heap.size := Lib.iterAt_size ..
        have hit0 := hit
        have hacl := pcAcc_len n 17
        go_wp2_with fail
        refine (brune_any (w1.heap.size + 1) (w1.heap.size + 1) _ 84 (by omega) (by omega) _ HIB.out (by rw [Lib.byteCells_length]; omega) (by omega)).mono ?_
        rw [show ([.int .u8 84] : List Value) = Lib.byteCells (pcL n 17) from rfl]
        rintro e w3 ⟨rfl, h1, h2, h3⟩
        have hi3 := h3.iter hi0 (by omega)
        have HI3 := Kp.mk hi3
        have HB3 := Kp.mk (HBDa.out.trans (h2.mono (by omega)))
        have HR3 := Kp.mk (show IsBd (w1.heap.size + 1) (w1.heap.size + 1) (Lib.byteCells (pcAcc n 18)) w3 from .inr (by rw [show pcAcc n 18 = pcAcc n 17 ++ pcL n 17 from rfl, Lib.byteCells_append]; exact h1))
        have hd3 := (h2.block w1.heap.size (by omega)).trans hd0
        have HD3 := Kp.mk hd3
        clear h1 h2 h3 hd3
        go_wp2_with fail
        go_roundw
        case rel => exact ⟨18, by omega, HR3.out, HI3.out, HD3.out, HB3.out⟩
        case measure => simp only [World.iterPos, hi3, hit0]; omega
end Go.Proofs.YtgamekfickheaaaGreat
