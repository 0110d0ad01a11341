/- Dates of fields (layer 6): Parse, the program's (bin/mkdtf.py). -/
import Derived.Test.YtgamekfickheaaaGreatDtd
import Derived.Deep.Cut
namespace Go.Proofs.YtgamekfickheaaaGreat
open Go.RowKit
set_option linter.unusedVariables false
set_option linter.unusedSimpArgs false

def patS : Nat → ByteArray
  | 0 => fixP
  | 1 => ⟨#[108, 44, 32, 100, 45, 98, 45, 101, 32, 104, 58, 105, 58, 115, 32, 71, 77, 84]⟩
  | _ => ⟨#[119, 32, 98, 32, 112, 32, 104, 58, 105, 58, 115, 32, 121]⟩
def patV : Value := .agg #[.string (patS 0), .string (patS 1), .string (patS 2)]
theorem patV_eq : Value.agg #[.string ⟨#[119, 44, 32, 100, 32, 98, 32, 121, 32, 104, 58, 105, 58, 115, 32, 71, 77, 84]⟩, .string ⟨#[108, 44, 32, 100, 45, 98, 45, 101, 32, 104, 58, 105, 58, 115, 32, 71, 77, 84]⟩, .string ⟨#[119, 32, 98, 32, 112, 32, 104, 58, 105, 58, 115, 32, 121]⟩] = patV := rfl
theorem idx_pat (k : Nat) (hk : k < 3) (w : World) : (Instr.index 96 patV (.int .i64 (k : Int))).run Tryz.prog w = .ok (.string (patS k)) w := by
  rcases (by omega : k = 0 ∨ k = 1 ∨ k = 2) with rfl | rfl | rfl
  all_goals kernel_rfl
theorem pat_ok (k : Nat) (hk : k < 3) : (∀ j, j < (patS k).size → bt (patS k) j ∈ alphaL) ∧ (patS k).size ≤ 1000 := by
  rcases (by omega : k = 0 ∨ k = 1 ∨ k = 2) with rfl | rfl | rfl
  all_goals exact ⟨by decide +kernel, by decide +kernel⟩
def fd0 (L : List UInt8) : Fd := ⟨L, 0, 0, 0, 0, 0, 0, 0⟩
/-- The year of what is now. -/
noncomputable def yrN (now : Int) : Int := (dayOf (now / 86400)).1
noncomputable def yrP (k : Nat) (now y : Int) : Int := if k = 1 then latI y (yrN now + 50) else y
noncomputable def endP (k : Nat) (now : Int) (g : Fd) : Int × Int × Int :=
  if (secB (yrP k now g.y) g.m g.d g.h g.i g.s && (weekI (secI (yrP k now g.y) g.m g.d g.h g.i g.s / 86400) == g.wk)) = true then (secI (yrP k now g.y) g.m g.d g.h g.i g.s, (k : Int) + 1, 0) else (0, 0, 16)
noncomputable def parF (now : Int) (L : List UInt8) : List Nat → Int × Int × Int
  | [] => (0, 0, 3)
  | k :: ks => match allS (patS k).data.toList (fd0 L) with | none => parF now L ks | some g => endP k now g
/-- What Parse tells. -/
noncomputable def parP (now : Int) (L : List UInt8) : Int × Int × Int := if placeB (now / 86400) = true then parF now L ([0, 1, 2].drop 0) else (0, 0, 1)
def RetP (p : Int × Int × Int) (w : World) (e : Ending) (w' : World) : Prop := e = .returned (.tuple #[.int .i64 p.1, .int .i64 p.2.1, .int .i64 p.2.2]) ∧ Below w.heap.size w w'
theorem parF_none {now : Int} {L : List UInt8} {k : Nat} (hk : k < 3) (h : allS (patS k).data.toList (fd0 L) = none) : parF now L ([0, 1, 2].drop k) = parF now L ([0, 1, 2].drop (k + 1)) := by
  rcases (by omega : k = 0 ∨ k = 1 ∨ k = 2) with rfl | rfl | rfl
  all_goals
    conv => lhs; simp only [List.drop_zero, List.drop_succ_cons]; unfold parF
    rw [h]
    rfl
theorem parF_some {now : Int} {L : List UInt8} {k : Nat} {g : Fd} (hk : k < 3) (h : allS (patS k).data.toList (fd0 L) = some g) : parF now L ([0, 1, 2].drop k) = endP k now g := by
  rcases (by omega : k = 0 ∨ k = 1 ∨ k = 2) with rfl | rfl | rfl
  all_goals
    conv => lhs; simp only [List.drop_zero, List.drop_succ_cons]; unfold parF
    rw [h]
theorem numL_range {k : Nat} {l : List UInt8} {n : Int} (h : numL k l = some n) : 0 ≤ n ∧ n ≤ 9999 := by
  unfold numL at h
  split at h
  · cases h
  · split at h
    · rename_i h0
      cases h
      unfold numV
      rw [if_pos h0]
      unfold numE at h0
      split at h0
      · cases h0
      · split at h0
        · cases h0
        · split at h0
          · omega
          · cases h0
    · cases h
theorem opt_ite {c : Prop} [Decidable c] {a b : Option Fd} {g : Fd} {Q : Prop} (h : (if c then a else b) = some g) (ha : a = some g → Q) (hb : b = some g → Q) : Q := by
  by_cases hc : c
  · rw [if_pos hc] at h; exact ha h
  · rw [if_neg hc] at h; exact hb h
theorem oneS_y {c : Nat} {f g : Fd} (h : oneS c f = some g) (hy : 0 ≤ f.y ∧ f.y ≤ 9999) : 0 ≤ g.y ∧ g.y ≤ 9999 := by
  unfold oneS txL at h
  repeat' refine opt_ite h (fun h => ?_) (fun h => ?_)
  all_goals first
    | (cases h; done)
    | (cases h; exact hy)
    | (obtain ⟨n, hn, rfl⟩ := Option.map_eq_some_iff.1 h; first | exact hy | exact numL_range hn)
theorem allS_y : ∀ (P : List UInt8) (f g : Fd), allS P f = some g → (0 ≤ f.y ∧ f.y ≤ 9999) → 0 ≤ g.y ∧ g.y ≤ 9999
  | [], f, g, h, hy => by
    unfold allS at h
    split at h
    · cases h; exact hy
    · cases h
  | c :: cs, f, g, h, hy => by
    unfold allS at h
    split at h
    · cases h
    · rename_i g' hg'
      exact allS_y cs g' g h (oneS_y hg' hy)
theorem secI_range (y m d h i s : Int) : -9223372036854775808 ≤ secI y m d h i s ∧ secI y m d h i s ≤ 9223372036854775807 := by
  unfold secI
  split
  · rename_i hb
    unfold secB at hb
    rw [Bool.and_eq_true] at hb
    have h1 := place_range ((dayB_iff y m d).1 hb.1)
    have h2 : 0 ≤ h ∧ h ≤ 23 ∧ 0 ≤ i ∧ i ≤ 59 ∧ 0 ≤ s ∧ s ≤ 59 := by simpa [timeB] using hb.2
    omega
  · omega
theorem date_y (now : Int) (h0 : -9223372036854775808 ≤ now) (h1 : now ≤ 9223372036854775807) (hpl : placeB (now / 86400) = true) :
    ∃ m d h i s : Int, ∀ w, Calls Tryz.prog 44 #[.int .i64 now] w fun e w' => e = .returned (.tuple #[.agg #[.int .i64 (yrN now), .int .i64 m, .int .i64 d, .int .i64 h, .int .i64 i, .int .i64 s], .bool true]) ∧ Below w.heap.size w w' :=
  ⟨_, _, _, _, _, fun w => by have := date_any2 now w h0 h1; rw [hpl] at this; exact this⟩
set_option maxRecDepth 100000 in
set_option maxHeartbeats 4000000 in
theorem hdparse_any (now : Int) (L : List UInt8) (w : World) (hL : L.length ≤ 100000) (h0 : -9223372036854775808 ≤ now) (h1 : now ≤ 9223372036854775807) :
    Calls Tryz.prog 43 #[.string (ofL L), .int .i64 now] w (RetP (parP now L) w) := by
  cases hpl : placeB (now / 86400)
  · have HP := Kp.mk (show parP now L = (0, 0, 1) by unfold parP; rw [hpl]; rfl)
    have HD := Kp.mk (date_any2 now w h0 h1)
    rw [hpl] at HD
    clear hpl
    go_enter Tryz.func43, Tryz.ntmps43
    go_wp2_with fail
    refine HD.out.mono ?_
    rintro e w1 ⟨rfl, hb1⟩
    go_wp2_with fail
    exact bodyPost_ret (v := .tuple #[.int .i64 0, .int .i64 0, .int .i64 1]) (by simp [results, Tryz.results43, go_sem]) rfl ⟨by rw [HP.out], hb1.trans (((Below.refl _ _).alloc (Nat.le_refl _) _).mono hb1.size)⟩
  · have HP := Kp.mk (show parP now L = parF now L ([0, 1, 2].drop 0) by unfold parP; rw [hpl]; rfl)
    obtain ⟨m0, d0, u0, i0, s0, hd⟩ := date_y now h0 h1 hpl
    have HD := Kp.mk hd
    have hrg : 1 ≤ yrN now ∧ yrN now ≤ 9999 := ⟨(date_ranges now hpl).1, (date_ranges now hpl).2.1⟩
    clear hpl hd
    go_enter Tryz.func43, Tryz.ntmps43
    go_wp2_with fail
    refine (HD.out _).mono ?_
    rintro e w1 ⟨rfl, hb1⟩
    go_wp2_with fail
    rw [patV_eq]
    have hs1 := hb1.size
    have HA := Kp.mk (heap_alloc_new w1 (.cells #[.int .i64 (yrN now), .int .i64 m0, .int .i64 d0, .int .i64 u0, .int .i64 i0, .int .i64 s0] 66))
    have HB1 := Kp.mk (hb1.trans (((Below.refl w1.heap.size w1).alloc (Nat.le_refl _) (.cells #[.int .i64 (yrN now), .int .i64 m0, .int .i64 d0, .int .i64 u0, .int .i64 i0, .int .i64 s0] 66)).mono hs1))
    clear hb1
    go_loopw [22] (fun i wr => ∃ k : Nat, k ≤ 3 ∧ i = .int .i64 k ∧ parP now L = parF now L ([0, 1, 2].drop k) ∧ wr.heap[w1.heap.size]? = some (.cells #[.int .i64 (yrN now), .int .i64 m0, .int .i64 d0, .int .i64 u0, .int .i64 i0, .int .i64 s0] 66 (0, 0)) ∧ Below w.heap.size w wr) (fun i _ => 3 - (intOf i).toNat)
    case atStart => exact ⟨0, by omega, rfl, HP.out, HA.out, HB1.out⟩
    case round =>
      obtain ⟨k, hk, rfl, hP, hA, hbw⟩ := hrel
      have HPk := Kp.mk hP
      have HAk := Kp.mk hA
      have HBk := Kp.mk hbw
      have hbk : w1.heap.size < wr.heap.size := blk_lt hA
      have hsw : w.heap.size ≤ wr.heap.size := hbw.size
      clear hP hA hbw HA HB1 HP HD
      by_cases hlt : k < 3
      · have hix := fun w => idx_pat k hlt w
        have hkk : (k : Int) < 3 := by omega
        go_wp2_with fail
        have HF := Kp.mk (show FdB wr.heap.size (fd0 L) (wr.alloc (.cells #[.string (ofL L), .int .i64 0, .int .i64 0, .int .i64 0, .int .i64 0, .int .i64 0, .int .i64 0, .int .i64 0] 98)) from ⟨heap_alloc_new wr _, hL⟩)
        refine (fall_any6 wr.heap.size (fd0 L) (patS k) (pat_ok k hlt).1 (pat_ok k hlt).2 _ HF.out).mono ?_
        rintro e w2 ⟨f', rfl, hf2, ho2, hg⟩
        have HA2 := Kp.mk (ho2.heap (blk_alloc HAk.out) (by omega) (by simp))
        have hb2 := (HBk.out.alloc hsw (.cells #[.string (ofL L), .int .i64 0, .int .i64 0, .int .i64 0, .int .i64 0, .int .i64 0, .int .i64 0, .int .i64 0] 98)).trans (ho2.below hsw (by rw [World.size_alloc]; omega) (fun k e => by cases e))
        have HB2 := Kp.mk hb2
        clear hb2
        cases ho : allS (patS k).data.toList (fd0 L) with
        | none =>
          have HN := Kp.mk (HPk.out.trans (parF_none hlt ho))
          clear ho hg hf2 ho2 HF HPk
          go_wp2_with fail
          go_roundw
          case rel => exact ⟨k + 1, by omega, by go_num, HN.out, HA2.out, HB2.out⟩
          case measure => simp [intOf]; omega
        | some g =>
          obtain rfl := hg g ho
          have HS := Kp.mk (HPk.out.trans (parF_some hlt ho))
          have hyr := allS_y _ _ _ ho ⟨by show (0 : Int) ≤ 0; omega, by show (0 : Int) ≤ 9999; omega⟩
          have HF2 := Kp.mk hf2.hb
          clear ho hg hf2 ho2 HF HPk
          obtain ⟨l', y', m', d', u', i', s', wk⟩ := f'
          have hyr : 0 ≤ y' ∧ y' ≤ 9999 := hyr
          by_cases hk1 : k = 1
          · have hYp : yrP k now y' = latI y' (yrN now + 50) := by unfold yrP; rw [if_pos hk1]
            have hLt := fun w => latest_any y' (yrN now + 50) w (by omega) (by omega) (by omega) (by omega)
            generalize latI y' (yrN now + 50) = Y2 at *
            have HQ := Kp.mk (show parP now L = if (secB Y2 m' d' u' i' s' && (weekI (secI Y2 m' d' u' i' s' / 86400) == wk)) = true then (secI Y2 m' d' u' i' s', (k : Int) + 1, 0) else (0, 0, 16) from HS.out.trans (by unfold endP; rw [hYp]))
            clear hYp HS
            have hk2 : (k : Int) + 1 = 2 := by omega
            have hk3 : ((k : Int) + 1 == 2) = true := by rw [hk2]; rfl
            have c1 : w2.cell? ⟨wr.heap.size, 1, none⟩ = some (.int .i64 y') := blk_cell (i := 1) HF2.out rfl
            have f1 := blk_free (i := 1) HF2.out
            have e0 : w2.cell? ⟨w1.heap.size, 0, none⟩ = some (.int .i64 (yrN now)) := blk_cell (i := 0) HA2.out rfl
            go_wp2_with fail
            refine (hLt _).mono ?_
            rintro e w3 ⟨rfl, rfl⟩
            have HF3 := Kp.mk (show (w2.setCell ⟨wr.heap.size, 1, none⟩ (.int .i64 Y2)).heap[wr.heap.size]? = some (.cells #[.string (ofL l'), .int .i64 Y2, .int .i64 m', .int .i64 d', .int .i64 u', .int .i64 i', .int .i64 s', .int .i64 wk] 98 (0, 0)) from blk_set HF2.out (i := 1) (.int .i64 Y2))
            have HB3 := Kp.mk (HB2.out.setCell (p := ⟨wr.heap.size, 1, none⟩) hsw (.int .i64 Y2))
            clear hLt
            have cc1 : (w2.setCell ⟨wr.heap.size, 1, none⟩ (.int .i64 Y2)).cell? ⟨wr.heap.size, 1, none⟩ = some (.int .i64 Y2) := blk_cell (i := 1) HF3.out rfl
            have c2 : (w2.setCell ⟨wr.heap.size, 1, none⟩ (.int .i64 Y2)).cell? ⟨wr.heap.size, 2, none⟩ = some (.int .i64 m') := blk_cell (i := 2) HF3.out rfl
            have c3 : (w2.setCell ⟨wr.heap.size, 1, none⟩ (.int .i64 Y2)).cell? ⟨wr.heap.size, 3, none⟩ = some (.int .i64 d') := blk_cell (i := 3) HF3.out rfl
            have c4 : (w2.setCell ⟨wr.heap.size, 1, none⟩ (.int .i64 Y2)).cell? ⟨wr.heap.size, 4, none⟩ = some (.int .i64 u') := blk_cell (i := 4) HF3.out rfl
            have c5 : (w2.setCell ⟨wr.heap.size, 1, none⟩ (.int .i64 Y2)).cell? ⟨wr.heap.size, 5, none⟩ = some (.int .i64 i') := blk_cell (i := 5) HF3.out rfl
            have c6 : (w2.setCell ⟨wr.heap.size, 1, none⟩ (.int .i64 Y2)).cell? ⟨wr.heap.size, 6, none⟩ = some (.int .i64 s') := blk_cell (i := 6) HF3.out rfl
            go_wp2_with fail
            refine (seconds_any Y2 m' d' u' i' s' _).mono ?_
            rintro e w4 ⟨rfl, hb4⟩
            have c7 : w4.cell? ⟨wr.heap.size, 7, none⟩ = some (.int .i64 wk) := blk_cell (i := 7) ((hb4.block _ (blk_lt HF3.out)).trans HF3.out) rfl
            have HB4 := Kp.mk (HB3.out.trans (hb4.mono HB3.out.size))
            have hx := secI_range Y2 m' d' u' i' s'
            have hwc : ∀ w, Calls Tryz.prog 47 #[.int .i64 (secI Y2 m' d' u' i' s')] w fun e w' => e = .returned (.int .i64 (weekI (secI Y2 m' d' u' i' s' / 86400))) ∧ w' = w := fun w => (hweek_any _ w hx.1 hx.2).mono fun _ _ h => ⟨h.1, h.2.symm⟩
            generalize secI Y2 m' d' u' i' s' = X at *
            generalize weekI (X / 86400) = V at *
            clear c1 cc1 c2 c3 c4 c5 c6 hb4
            cases hsb : secB Y2 m' d' u' i' s'
            · rw [hsb] at HQ
              have HQ2 := Kp.mk (show parP now L = (0, 0, 16) from HQ.out)
              clear HQ hsb hwc
              go_upto_region 12 with fail
              go_quiet (fail)
              go_wp2_with fail
              exact bodyPost_ret (v := .tuple #[.int .i64 0, .int .i64 0, .int .i64 16]) (by simp [results, Tryz.results43, go_sem]) rfl ⟨by rw [HQ2.out], by first | exact HB4.out | exact HB4.out.trans ((gdrewN _ _).mono HB4.out.size)⟩
            · rw [hsb] at HQ
              have HQ2 := Kp.mk (show parP now L = if (V == wk) = true then (X, (k : Int) + 1, 0) else (0, 0, 16) from HQ.out)
              clear HQ hsb
              cases hv : (V == wk)
              · rw [hv] at HQ2
                have HQ3 := Kp.mk (show parP now L = (0, 0, 16) from HQ2.out)
                have hv2 : (V != wk) = true := by simp [bne, hv]
                clear HQ2
                go_upto_region 12 with fail
                go_quiet ((go_at_call 47; exact Calls.quiet_of_same (hwc _)))
                go_wp2_with fail
                exact bodyPost_ret (v := .tuple #[.int .i64 0, .int .i64 0, .int .i64 16]) (by simp [results, Tryz.results43, go_sem]) rfl ⟨by rw [HQ3.out], by first | exact HB4.out | exact HB4.out.trans ((gdrewN _ _).mono HB4.out.size)⟩
              · rw [hv] at HQ2
                have HQ3 := Kp.mk (show parP now L = (X, (k : Int) + 1, 0) from HQ2.out)
                have hv2 : (V != wk) = false := by simp [bne, hv]
                clear HQ2
                go_upto_region 12 with fail
                go_quiet ((go_at_call 47; exact Calls.quiet_of_same (hwc _)))
                go_wp2_with fail
                exact bodyPost_ret (v := .tuple #[.int .i64 X, .int .i64 ((k : Int) + 1), .int .i64 0]) (by simp [results, Tryz.results43, go_sem] <;> omega) rfl ⟨by rw [HQ3.out], by first | exact HB4.out | exact HB4.out.trans ((gdrewN _ _).mono HB4.out.size)⟩
          · have hYp : yrP k now y' = y' := by unfold yrP; rw [if_neg hk1]
            have HQ := Kp.mk (show parP now L = if (secB y' m' d' u' i' s' && (weekI (secI y' m' d' u' i' s' / 86400) == wk)) = true then (secI y' m' d' u' i' s', (k : Int) + 1, 0) else (0, 0, 16) from HS.out.trans (by unfold endP; rw [hYp]))
            clear hYp HS
            have hk3 : ((k : Int) + 1 == 2) = false := by rw [beq_eq_false_iff_ne]; omega
            have HF3 := Kp.mk (show w2.heap[wr.heap.size]? = some (.cells #[.string (ofL l'), .int .i64 y', .int .i64 m', .int .i64 d', .int .i64 u', .int .i64 i', .int .i64 s', .int .i64 wk] 98 (0, 0)) from HF2.out)
            have HB3 := HB2
            have c1 : (w2).cell? ⟨wr.heap.size, 1, none⟩ = some (.int .i64 y') := blk_cell (i := 1) HF3.out rfl
            have c2 : (w2).cell? ⟨wr.heap.size, 2, none⟩ = some (.int .i64 m') := blk_cell (i := 2) HF3.out rfl
            have c3 : (w2).cell? ⟨wr.heap.size, 3, none⟩ = some (.int .i64 d') := blk_cell (i := 3) HF3.out rfl
            have c4 : (w2).cell? ⟨wr.heap.size, 4, none⟩ = some (.int .i64 u') := blk_cell (i := 4) HF3.out rfl
            have c5 : (w2).cell? ⟨wr.heap.size, 5, none⟩ = some (.int .i64 i') := blk_cell (i := 5) HF3.out rfl
            have c6 : (w2).cell? ⟨wr.heap.size, 6, none⟩ = some (.int .i64 s') := blk_cell (i := 6) HF3.out rfl
            go_wp2_with fail
            refine (seconds_any y' m' d' u' i' s' _).mono ?_
            rintro e w4 ⟨rfl, hb4⟩
            have c7 : w4.cell? ⟨wr.heap.size, 7, none⟩ = some (.int .i64 wk) := blk_cell (i := 7) ((hb4.block _ (blk_lt HF3.out)).trans HF3.out) rfl
            have HB4 := Kp.mk (HB3.out.trans (hb4.mono HB3.out.size))
            have hx := secI_range y' m' d' u' i' s'
            have hwc : ∀ w, Calls Tryz.prog 47 #[.int .i64 (secI y' m' d' u' i' s')] w fun e w' => e = .returned (.int .i64 (weekI (secI y' m' d' u' i' s' / 86400))) ∧ w' = w := fun w => (hweek_any _ w hx.1 hx.2).mono fun _ _ h => ⟨h.1, h.2.symm⟩
            generalize secI y' m' d' u' i' s' = X at *
            generalize weekI (X / 86400) = V at *
            clear c1 c2 c3 c4 c5 c6 hb4
            cases hsb : secB y' m' d' u' i' s'
            · rw [hsb] at HQ
              have HQ2 := Kp.mk (show parP now L = (0, 0, 16) from HQ.out)
              clear HQ hsb hwc
              go_upto_region 12 with fail
              go_quiet (fail)
              go_wp2_with fail
              exact bodyPost_ret (v := .tuple #[.int .i64 0, .int .i64 0, .int .i64 16]) (by simp [results, Tryz.results43, go_sem]) rfl ⟨by rw [HQ2.out], by first | exact HB4.out | exact HB4.out.trans ((gdrewN _ _).mono HB4.out.size)⟩
            · rw [hsb] at HQ
              have HQ2 := Kp.mk (show parP now L = if (V == wk) = true then (X, (k : Int) + 1, 0) else (0, 0, 16) from HQ.out)
              clear HQ hsb
              cases hv : (V == wk)
              · rw [hv] at HQ2
                have HQ3 := Kp.mk (show parP now L = (0, 0, 16) from HQ2.out)
                have hv2 : (V != wk) = true := by simp [bne, hv]
                clear HQ2
                go_upto_region 12 with fail
                go_quiet ((go_at_call 47; exact Calls.quiet_of_same (hwc _)))
                go_wp2_with fail
                exact bodyPost_ret (v := .tuple #[.int .i64 0, .int .i64 0, .int .i64 16]) (by simp [results, Tryz.results43, go_sem]) rfl ⟨by rw [HQ3.out], by first | exact HB4.out | exact HB4.out.trans ((gdrewN _ _).mono HB4.out.size)⟩
              · rw [hv] at HQ2
                have HQ3 := Kp.mk (show parP now L = (X, (k : Int) + 1, 0) from HQ2.out)
                have hv2 : (V != wk) = false := by simp [bne, hv]
                clear HQ2
                go_upto_region 12 with fail
                go_quiet ((go_at_call 47; exact Calls.quiet_of_same (hwc _)))
                go_wp2_with fail
                exact bodyPost_ret (v := .tuple #[.int .i64 X, .int .i64 ((k : Int) + 1), .int .i64 0]) (by simp [results, Tryz.results43, go_sem] <;> omega) rfl ⟨by rw [HQ3.out], by first | exact HB4.out | exact HB4.out.trans ((gdrewN _ _).mono HB4.out.size)⟩
      · obtain rfl : k = 3 := by omega
        have HQ := Kp.mk (show parP now L = (0, 0, 3) from HPk.out)
        clear HPk
        go_wp2_with fail
        exact bodyPost_ret (v := .tuple #[.int .i64 0, .int .i64 0, .int .i64 3]) (by simp [results, Tryz.results43, go_sem]) rfl ⟨by rw [HQ.out], HBk.out⟩
end Go.Proofs.YtgamekfickheaaaGreat
