/- Dice (layer 52): the walk of the law DrillDice. -/
import Derived.Test.YtijgdojgmaepmaaDice
import Derived.OpenShut
import Derived.Deep.RegionWith
namespace Go.Proofs.Ytijgdojgmaepmaa
open Go.RowKit
set_option linter.unusedVariables false
set_option linter.unusedSimpArgs false

theorem below_thn {w w1 w2 : World} (h : Below w.heap.size w w1) (h2 : Below w1.heap.size w1 w2) : Below w.heap.size w w2 := h.trans (h2.mono h.size)

/-- The dice stand at a state. -/
structure AtState (w wr : World) (s : Int) : Prop where
  cell : wr.cell? ⟨w.heap.size, 0, none⟩ = some (.int .u64 s)
  free : wr.frozen? ⟨w.heap.size, 0, none⟩ = false
  bel : Below w.heap.size w wr
  lt : w.heap.size < wr.heap.size
theorem AtState.step {w wr : World} {s : Int} (h : AtState w wr s) (s' : Int) : AtState w (wr.setCell ⟨w.heap.size, 0, none⟩ (.int .u64 s')) s' :=
  ⟨World.cell?_setCell_same _ _ _ h.cell, by rw [World.frozen?_setCell]; exact h.free, h.bel.setCell (Nat.le_refl _) _, by simp [World.setCell]; exact h.lt⟩

theorem AtState.drew {w wr : World} {s : Int} (h : AtState w wr s) : AtState w wr.drew s := ⟨h.cell, h.free, h.bel.drew, h.lt⟩

set_option maxRecDepth 100000 in
set_option maxHeartbeats 1000000 in
theorem dice_walk (seed : Int) (a : Option Addr) (len cap : Nat) (zs : List Int) (w : World) (ws : (Lit.int .i64 seed).wf = true)
    (wl : (a = none ∧ len = 0 ∧ cap = 0 ∧ zs = []) ∨ ∃ x, a = some x ∧ len ≤ cap ∧ cap ≤ maxLen ∧ zs.length = cap ∧ (∀ i, i < zs.length → w.cell? (x.add i) = some (.int .i64 (zs.getD i 0))) ∧ ∀ n ∈ zs, (Lit.int .i64 n).wf = true) :
    Calls Try.prog 6 #[.int .i64 seed, .slice a len cap] w fun e w' => e = .returned (.bool true) ∧ Below w.heap.size w w' := by
  have hs0 := u64w seed
  generalize hS : IntKind.u64.wrap seed = S at *
  have HS := Lib.hid hS
  clear hS ws
  have hst0 : AtState w (w.alloc (.cells #[.int .u64 S] 65)) S := ⟨by rw [World.cell?_alloc_at _ _ _ _ rfl]; rfl, World.frozen?_alloc_at _ _ _ _ rfl, (Below.refl _ _).alloc (Nat.le_refl _) _, by simp⟩
  have HST0 := Lib.hid hst0
  clear hst0
  rcases wl with ⟨rfl, rfl, rfl, rfl⟩ | ⟨x, rfl, hl, hm, hz, hcell, hwz⟩
  · skip
    go_enter Try.func6, Try.ntmps6
    go_wp2_with fail
    refine (dice_new_any _ _).mono ?_
    rintro e w' ⟨rfl, rfl⟩
    rw [HS.out]
    go_wp2_with fail
    rw [HS.out]
    go_loopw [24, 6, 8, 9, 10] (fun i st _ _ _ wr => ∃ (k : Nat) (s : Int), k ≤ 0 ∧ i = .int .i64 k ∧ st = .int .u64 s ∧ 0 ≤ s ∧ s < 18446744073709551616 ∧ AtState w wr s) (fun i _ _ _ _ _ => 0 - (intOf i).toNat)
    case atStart => exact ⟨0, S, by omega, rfl, rfl, hs0.1, hs0.2, HST0.out⟩
    case round =>
      obtain ⟨k, s, hk, rfl, rfl, hs1, hs2, hat⟩ := hrel
      by_cases hlt : k < 0
      · skip
        omega
      · skip
        have HAT := Lib.hid hat
        have hc1 := hat.cell
        have hf1 := hat.free
        have hz1 := hat.lt
        clear hat
        go_wp2_with fail
        refine (ref_next_any _ _ hs1 hs2).mono ?_
        rintro e w' ⟨rfl, rfl⟩
        go_wp2_with fail
        refine (dice_next_any _ s _ hs1 hs2 hc1 hf1).mono ?_
        rintro e w' ⟨rfl, rfl⟩
        go_wp2_with fail
        refine (dice_next_nil _).mono ?_
        rintro e w' ⟨rfl, rfl⟩
        go_wp2_with fail
        refine (dice_below_nil _ _).mono ?_
        rintro e w' ⟨rfl, rfl⟩
        go_wp2_with fail
        refine (lives52_any _).mono ?_
        rintro e w2 ⟨rfl, hb2⟩
        go_wp2_with fail
        go_ret
        exact ⟨rfl, below_thn (HAT.out.step (dSt s)).bel hb2⟩
  · by_cases h0 : len = 0
    · subst h0
      go_enter Try.func6, Try.ntmps6
      go_wp2_with fail
      refine (dice_new_any _ _).mono ?_
      rintro e w' ⟨rfl, rfl⟩
      rw [HS.out]
      go_wp2_with fail
      rw [HS.out]
      go_loopw [24, 6, 8, 9, 10] (fun i st _ _ _ wr => ∃ (k : Nat) (s : Int), k ≤ 0 ∧ i = .int .i64 k ∧ st = .int .u64 s ∧ 0 ≤ s ∧ s < 18446744073709551616 ∧ AtState w wr s) (fun i _ _ _ _ _ => 0 - (intOf i).toNat)
      case atStart => exact ⟨0, S, by omega, rfl, rfl, hs0.1, hs0.2, HST0.out⟩
      case round =>
        obtain ⟨k, s, hk, rfl, rfl, hs1, hs2, hat⟩ := hrel
        by_cases hlt : k < 0
        · skip
          omega
        · skip
          have HAT := Lib.hid hat
          have hc1 := hat.cell
          have hf1 := hat.free
          have hz1 := hat.lt
          clear hat
          go_wp2_with fail
          refine (ref_next_any _ _ hs1 hs2).mono ?_
          rintro e w' ⟨rfl, rfl⟩
          go_wp2_with fail
          refine (dice_next_any _ s _ hs1 hs2 hc1 hf1).mono ?_
          rintro e w' ⟨rfl, rfl⟩
          go_wp2_with fail
          refine (dice_next_nil _).mono ?_
          rintro e w' ⟨rfl, rfl⟩
          go_wp2_with fail
          refine (dice_below_nil _ _).mono ?_
          rintro e w' ⟨rfl, rfl⟩
          go_wp2_with fail
          refine (lives52_any _).mono ?_
          rintro e w2 ⟨rfl, hb2⟩
          go_wp2_with fail
          go_ret
          exact ⟨rfl, below_thn (HAT.out.step (dSt s)).bel hb2⟩
    · obtain ⟨b, off, spot⟩ := x
      have hspot : spot = none := by simpa [Addr.add] using World.cell?_spot (hcell 0 (by omega))
      subst hspot
      have he2 : ∀ k, k < len → ∃ n : Int, -9223372036854775808 ≤ n ∧ n ≤ 9223372036854775807 ∧ w.cell? ⟨b, off + k, none⟩ = some (.int .i64 n) := by
        intro k hk
        have hc := hcell k (by omega)
        have hb := bounds_i64 (hwz (zs.getD k 0) (by rw [List.getD_eq_getElem?_getD, List.getElem?_eq_getElem (by omega)]; exact List.getElem_mem _))
        rw [Addr.add_lit] at hc
        exact ⟨_, hb.1, hb.2, hc⟩
      have HE := Lib.hid he2
      unfold maxLen at hm
      clear he2 hcell hwz hz
      by_cases h60 : len ≤ 60
      · skip
        go_enter Try.func6, Try.ntmps6
        go_wp2_with fail
        refine (dice_new_any _ _).mono ?_
        rintro e w' ⟨rfl, rfl⟩
        rw [HS.out]
        go_wp2_with fail
        rw [HS.out]
        go_loopw [24, 6, 8, 9, 10] (fun i st _ _ _ wr => ∃ (k : Nat) (s : Int), k ≤ len ∧ i = .int .i64 k ∧ st = .int .u64 s ∧ 0 ≤ s ∧ s < 18446744073709551616 ∧ AtState w wr s) (fun i _ _ _ _ _ => len - (intOf i).toNat)
        case atStart => exact ⟨0, S, by omega, rfl, rfl, hs0.1, hs0.2, HST0.out⟩
        case round =>
          obtain ⟨k, s, hk, rfl, rfl, hs1, hs2, hat⟩ := hrel
          by_cases hlt : k < len
          · skip
            obtain ⟨n, hn0, hn1, hc⟩ := HE.out k (by omega)
            have hcw : wr.cell? ⟨b, off + k, none⟩ = some (.int .i64 n) := by
              rw [← hc]
              exact hat.bel.cell (p := ⟨b, off + k, none⟩) (block_lt_of_cell hc)
            have HAT := Lib.hid hat
            have hc1 := hat.cell
            have hf1 := hat.free
            have hz1 := hat.lt
            have hr := dSt_range s
            clear hat hc
            by_cases he : n < 1
            · go_wp2_with fail
              refine (dice_below_no _ _ _ he).mono ?_
              rintro e w' ⟨rfl, rfl⟩
              go_wp2_with fail
              go_roundw
              case rel => exact ⟨k + 1, s, by omega, by go_num, rfl, hs1, hs2, HAT.out⟩
              case measure => simp [intOf]; omega
            · have he' : 1 ≤ n := by omega
              have hq1 : IntKind.u64.wrap n = n := u64i (by omega) (by omega)
              have hq2 : (IntKind.u64.wrap n == 0) = false := by rw [hq1, beq_eq_false_iff_ne]; omega
              have hq3 : ¬ (IntKind.u64.wrap n = 0) := by rw [hq1]; omega
              have hq4 : (n == 0) = false := by rw [beq_eq_false_iff_ne]; omega
              have hq5 : ¬ (n = 0) := by omega
              have hq6 : (dBelow s n != IntKind.i64.wrap ((dNum (dSt s)).tmod n)) = false := by
                have : dBelow s n = IntKind.i64.wrap ((dNum (dSt s)).tmod n) := by
                  simp [dBelow, IntKind.wrap, IntKind.signed, IntKind.bits, wrap64]; generalize (dNum (dSt s)).tmod n = q; split <;> omega
                rw [this]; simp
              clear he
              go_wp2_with fail
              refine (ref_next_any _ _ hs1 hs2).mono ?_
              rintro e w' ⟨rfl, rfl⟩
              go_wp2_with fail
              go_region_with (go_at_call 23; refine (dice_below_any _ s _ wr.drew hs1 hs2 he' hn1 hc1 hf1).mono ?_; rintro e w' ⟨rfl, rfl⟩)
              all_goals
                go_wp2_with fail
                go_roundw
                case rel => exact ⟨k + 1, dSt s, by omega, by go_num, rfl, hr.1, hr.2, by first | exact HAT.out.step (dSt s) | exact (HAT.out.step (dSt s)).drew | exact HAT.out.drew.step (dSt s)⟩
                case measure => simp [intOf]; omega
          · skip
            have HAT := Lib.hid hat
            have hc1 := hat.cell
            have hf1 := hat.free
            have hz1 := hat.lt
            clear hat
            go_wp2_with fail
            refine (ref_next_any _ _ hs1 hs2).mono ?_
            rintro e w' ⟨rfl, rfl⟩
            go_wp2_with fail
            refine (dice_next_any _ s _ hs1 hs2 hc1 hf1).mono ?_
            rintro e w' ⟨rfl, rfl⟩
            go_wp2_with fail
            refine (dice_next_nil _).mono ?_
            rintro e w' ⟨rfl, rfl⟩
            go_wp2_with fail
            refine (dice_below_nil _ _).mono ?_
            rintro e w' ⟨rfl, rfl⟩
            go_wp2_with fail
            refine (lives52_any _).mono ?_
            rintro e w2 ⟨rfl, hb2⟩
            go_wp2_with fail
            go_ret
            exact ⟨rfl, below_thn (HAT.out.step (dSt s)).bel hb2⟩
      · skip
        go_enter Try.func6, Try.ntmps6
        go_wp2_with fail
        refine (dice_new_any _ _).mono ?_
        rintro e w' ⟨rfl, rfl⟩
        rw [HS.out]
        go_wp2_with fail
        rw [HS.out]
        go_loopw [24, 6, 8, 9, 10] (fun i st _ _ _ wr => ∃ (k : Nat) (s : Int), k ≤ 60 ∧ i = .int .i64 k ∧ st = .int .u64 s ∧ 0 ≤ s ∧ s < 18446744073709551616 ∧ AtState w wr s) (fun i _ _ _ _ _ => 60 - (intOf i).toNat)
        case atStart => exact ⟨0, S, by omega, rfl, rfl, hs0.1, hs0.2, HST0.out⟩
        case round =>
          obtain ⟨k, s, hk, rfl, rfl, hs1, hs2, hat⟩ := hrel
          by_cases hlt : k < 60
          · skip
            obtain ⟨n, hn0, hn1, hc⟩ := HE.out k (by omega)
            have hcw : wr.cell? ⟨b, off + k, none⟩ = some (.int .i64 n) := by
              rw [← hc]
              exact hat.bel.cell (p := ⟨b, off + k, none⟩) (block_lt_of_cell hc)
            have HAT := Lib.hid hat
            have hc1 := hat.cell
            have hf1 := hat.free
            have hz1 := hat.lt
            have hr := dSt_range s
            clear hat hc
            by_cases he : n < 1
            · go_wp2_with fail
              refine (dice_below_no _ _ _ he).mono ?_
              rintro e w' ⟨rfl, rfl⟩
              go_wp2_with fail
              go_roundw
              case rel => exact ⟨k + 1, s, by omega, by go_num, rfl, hs1, hs2, HAT.out⟩
              case measure => simp [intOf]; omega
            · have he' : 1 ≤ n := by omega
              have hq1 : IntKind.u64.wrap n = n := u64i (by omega) (by omega)
              have hq2 : (IntKind.u64.wrap n == 0) = false := by rw [hq1, beq_eq_false_iff_ne]; omega
              have hq3 : ¬ (IntKind.u64.wrap n = 0) := by rw [hq1]; omega
              have hq4 : (n == 0) = false := by rw [beq_eq_false_iff_ne]; omega
              have hq5 : ¬ (n = 0) := by omega
              have hq6 : (dBelow s n != IntKind.i64.wrap ((dNum (dSt s)).tmod n)) = false := by
                have : dBelow s n = IntKind.i64.wrap ((dNum (dSt s)).tmod n) := by
                  simp [dBelow, IntKind.wrap, IntKind.signed, IntKind.bits, wrap64]; generalize (dNum (dSt s)).tmod n = q; split <;> omega
                rw [this]; simp
              clear he
              go_wp2_with fail
              refine (ref_next_any _ _ hs1 hs2).mono ?_
              rintro e w' ⟨rfl, rfl⟩
              go_wp2_with fail
              go_region_with (go_at_call 23; refine (dice_below_any _ s _ wr.drew hs1 hs2 he' hn1 hc1 hf1).mono ?_; rintro e w' ⟨rfl, rfl⟩)
              all_goals
                go_wp2_with fail
                go_roundw
                case rel => exact ⟨k + 1, dSt s, by omega, by go_num, rfl, hr.1, hr.2, by first | exact HAT.out.step (dSt s) | exact (HAT.out.step (dSt s)).drew | exact HAT.out.drew.step (dSt s)⟩
                case measure => simp [intOf]; omega
          · skip
            have HAT := Lib.hid hat
            have hc1 := hat.cell
            have hf1 := hat.free
            have hz1 := hat.lt
            clear hat
            go_wp2_with fail
            refine (ref_next_any _ _ hs1 hs2).mono ?_
            rintro e w' ⟨rfl, rfl⟩
            go_wp2_with fail
            refine (dice_next_any _ s _ hs1 hs2 hc1 hf1).mono ?_
            rintro e w' ⟨rfl, rfl⟩
            go_wp2_with fail
            refine (dice_next_nil _).mono ?_
            rintro e w' ⟨rfl, rfl⟩
            go_wp2_with fail
            refine (dice_below_nil _ _).mono ?_
            rintro e w' ⟨rfl, rfl⟩
            go_wp2_with fail
            refine (lives52_any _).mono ?_
            rintro e w2 ⟨rfl, hb2⟩
            go_wp2_with fail
            go_ret
            exact ⟨rfl, below_thn (HAT.out.step (dSt s)).bel hb2⟩
end Go.Proofs.Ytijgdojgmaepmaa
