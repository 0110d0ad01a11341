/- Framing (layer 23): what the fields say of a body's end, on both sides. -/
import Derived.Test.YtkfpioadimkogaaGreatDoorLee
import Derived.Test.YtkfpioadimkogaaGreatDoorCdd
import Derived.Test.YtkfpioadimkogaaGreatDoorHog
namespace Go.Proofs.YtkfpioadimkogaaGreatDoor
open Go.RowKit
set_option linter.unusedVariables false
set_option linter.unusedSimpArgs false

theorem hAll_fold {a b : ByteArray} (h : lowB a = lowB b) (l : List Fld) : hAll l a = hAll l b := by
  unfold hAll
  congr 2
  funext p
  unfold foldB
  rw [h]
def nmCL2 : ByteArray := ⟨#[99, 111, 110, 116, 101, 110, 116, 45, 108, 101, 110, 103, 116, 104]⟩
theorem hAll_cl2 (l : List Fld) : hAll l nmCL2 = hAll l nmCL := hAll_fold (by decide +kernel) l
/-- P23.1: kind, length, whether anything is said, the error. -/
def sdF (c : Bool) (ce mi : Int) (k : Nat) (n : Int) (has : Bool) (f : Int) : Int × Int × Bool × Int :=
  if ce ≠ 0 then (0, 0, false, ce) else if c = true then (if mi ≤ 0 ∨ 0 < k then (0, 0, false, 14) else (2, 0, true, 0)) else if f ≠ 0 then (0, 0, false, f) else if has = true then (1, n, true, 0) else (0, 0, false, 0)
def sdR (l : List Fld) (mi : Int) : Int × Int × Bool × Int := sdF (chF l).1 (chF l).2 mi (hAll l nmCL).length (lenF l).1 (lenF l).2.1 (lenF l).2.2
theorem len_none {l : List Fld} (h : (hAll l nmCL).length = 0) : lenF l = (0, false, 0) := by
  unfold lenF
  rw [List.eq_nil_of_length_eq_zero h]
  rfl
/-- A head's block, and what a call leaves of it. -/
def hdC (M T : ByteArray) (mi st : Int) (R : ByteArray) (v : Value) : Array Value := #[.string M, .string T, .int .i64 mi, .int .i64 st, .string R, v]
structure Bx2 (h : Nat) (t1 t2 : TypeId) (c1 c2 : Array Value) (w W : World) : Prop where
  b1 : W.heap[h]? = some (.cells c1 t1 (0, 0))
  b2 : W.heap[h + 1]? = some (.cells c2 t2 (0, 0))
  bel : Below h w W
theorem Bx2.new (w : World) (t1 t2 : TypeId) (c1 c2 : Array Value) : Bx2 w.heap.size t1 t2 c1 c2 w ((w.alloc (.cells c1 t1)).alloc (.cells c2 t2)) := by
  have e1 : (w.alloc (.cells c1 t1)).heap.size = w.heap.size + 1 := World.size_alloc _ _
  have k1 := heap_alloc_new (w.alloc (.cells c1 t1)) (.cells c2 t2)
  rw [e1] at k1
  exact ⟨blk_alloc (heap_alloc_new w _), k1, ((Below.refl _ w).alloc (Nat.le_refl _) _).alloc (by rw [e1]; omega) _⟩
theorem Bx2.call {h : Nat} {t1 t2 : TypeId} {c1 c2 : Array Value} {w W W' : World} (H : Bx2 h t1 t2 c1 c2 w W) (hb : Below W.heap.size W W') : Bx2 h t1 t2 c1 c2 w W' :=
  ⟨(hb.block h (blk_lt H.b1)).trans H.b1, (hb.block (h + 1) (blk_lt H.b2)).trans H.b2, H.bel.trans (hb.mono (by have := blk_lt H.b1; omega))⟩
theorem Bx2.alloc {h : Nat} {t1 t2 : TypeId} {c1 c2 : Array Value} {w W : World} (H : Bx2 h t1 t2 c1 c2 w W) (o : Obj) : Bx2 h t1 t2 c1 c2 w (W.alloc o) :=
  H.call ((Below.refl _ W).alloc (Nat.le_refl _) o)
/-- The result, two numbers, stored. -/
theorem Bx2.put {h : Nat} {t1 t2 : TypeId} {c1 : Array Value} {x y : Value} {w W : World} (H : Bx2 h t1 t2 c1 #[x, y] w W) (a b : Value) : Bx2 h t1 t2 c1 #[a, b] w ((W.setCell ⟨h + 1, 0, none⟩ a).setCell ⟨h + 1, 1, none⟩ b) :=
  ⟨blk_set_other (blk_set_other H.b1 (by omega) _) (by omega) _, (blk_set (blk_set H.b2 _) _).trans rfl, (H.bel.setCell (by simp) _).setCell (by simp) _⟩
theorem Bx2.rd {h : Nat} {t1 t2 : TypeId} {c1 c2 : Array Value} {w W : World} (H : Bx2 h t1 t2 c1 c2 w W) {v : Value} {l : List Fld} (hv : RdF w v l) (hh : h = w.heap.size) : RdF W v l := hv.below (hh ▸ H.bel)
set_option maxRecDepth 100000 in
set_option maxHeartbeats 8000000 in
theorem said_any (M T R : ByteArray) (mi st : Int) (v : Value) (l : List Fld) (w : World) (hv : RdF w v l) (hF : FewF l) :
    Calls Tryz.prog 72 #[.agg #[.string M, .string T, .int .i64 mi, .int .i64 st, .string R, v]] w fun e w' => e = .returned (.tuple #[.agg #[.int .i64 (sdR l mi).1, .int .i64 (sdR l mi).2.1], .int .i64 (sdR l mi).2.2.2]) ∧ Below w.heap.size w w' := by
  have HV := Kp.mk hv
  have HSM := Kp.mk hF.sm
  have hl := hF.len
  have HC := Kp.mk (fun w hv => cchunk_any v l w hv hF)
  have HL := Kp.mk (fun w hv => lenof_any v l w hv hF.sm (by omega))
  have HLN := Kp.mk (fun q => len_none (l := l) q)
  have HCN := Kp.mk (fun w hv => hcount_any v l nmCL w hv hF.sm (by omega) (by decide))
  unfold RetLn at HL
  have HS := Kp.mk (show sdR l mi = sdF (chF l).1 (chF l).2 mi (hAll l nmCL).length (lenF l).1 (lenF l).2.1 (lenF l).2.2 from rfl)
  obtain ⟨ad, cap, rfl, -, -, -⟩ := hv
  have hcl := hAll_len l nmCL
  generalize sdR l mi = S at *
  generalize (chF l).1 = c at *
  generalize (chF l).2 = ce at *
  generalize lenF l = LF at *
  obtain ⟨n, has, f⟩ := LF
  dsimp only at HL HS
  have HB := Kp.mk (Bx2.new w 33 37 (hdC M T mi st R (.slice ad l.length cap)) #[.int .i64 0, .int .i64 0])
  unfold hdC at HB
  have d2 := blk_cell (i := 2) HB.out.b1 rfl
  have d5 := blk_cell (i := 5) HB.out.b1 rfl
  have r0 := blk_cell (i := 0) HB.out.b2 rfl
  have r1 := blk_cell (i := 1) HB.out.b2 rfl
  have f0 := blk_free (i := 0) HB.out.b2
  have f1 := blk_free (i := 1) HB.out.b2
  go_enter Tryz.func72, Tryz.ntmps72
  go_wp2_with fail
  refine (HC.out _ (HV.out.below HB.out.bel)).mono ?_
  rintro e w9 ⟨rfl, hb9⟩
  replace HB := Kp.mk (HB.out.call hb9)
  clear hb9 d2 d5 r0 r1 f0 f1
  have d2 := blk_cell (i := 2) HB.out.b1 rfl
  have d5 := blk_cell (i := 5) HB.out.b1 rfl
  have r0 := blk_cell (i := 0) HB.out.b2 rfl
  have r1 := blk_cell (i := 1) HB.out.b2 rfl
  have f0 := blk_free (i := 0) HB.out.b2
  have f1 := blk_free (i := 1) HB.out.b2
  by_cases hce : ce = 0
  · subst hce
    cases c
    · by_cases hf : f = 0
      · subst hf
        cases has
        · replace HS := Kp.mk (HS.out.trans (show _ = (0, 0, false, 0) from rfl))
          go_wp2_with fail
          refine (HL.out _ (HV.out.below HB.out.bel)).mono ?_
          rintro e w9 ⟨rfl, hb9⟩
          replace HB := Kp.mk (HB.out.call hb9)
          clear hb9 d2 d5 r0 r1 f0 f1
          have d2 := blk_cell (i := 2) HB.out.b1 rfl
          have d5 := blk_cell (i := 5) HB.out.b1 rfl
          have r0 := blk_cell (i := 0) HB.out.b2 rfl
          have r1 := blk_cell (i := 1) HB.out.b2 rfl
          have f0 := blk_free (i := 0) HB.out.b2
          have f1 := blk_free (i := 1) HB.out.b2
          go_wp2_with fail
          have HZ := HB.out.put (.int .i64 0) (.int .i64 0)
          have z0 := blk_cell (i := 0) HZ.b2 rfl
          have z1 := blk_cell (i := 1) HZ.b2 rfl
          exact bodyPost_ret (v := .tuple #[.agg #[.int .i64 0, .int .i64 0], .int .i64 0]) (by simp [results, Tryz.results72, go_sem, z0, z1]) rfl ⟨by rw [HS.out], HZ.bel⟩
        · replace HS := Kp.mk (HS.out.trans (show _ = (1, n, true, 0) from rfl))
          go_wp2_with fail
          refine (HL.out _ (HV.out.below HB.out.bel)).mono ?_
          rintro e w9 ⟨rfl, hb9⟩
          replace HB := Kp.mk (HB.out.call hb9)
          clear hb9 d2 d5 r0 r1 f0 f1
          have d2 := blk_cell (i := 2) HB.out.b1 rfl
          have d5 := blk_cell (i := 5) HB.out.b1 rfl
          have r0 := blk_cell (i := 0) HB.out.b2 rfl
          have r1 := blk_cell (i := 1) HB.out.b2 rfl
          have f0 := blk_free (i := 0) HB.out.b2
          have f1 := blk_free (i := 1) HB.out.b2
          go_wp2_with fail
          have HZ := HB.out.put (.int .i64 1) (.int .i64 n)
          have z0 := blk_cell (i := 0) HZ.b2 rfl
          have z1 := blk_cell (i := 1) HZ.b2 rfl
          exact bodyPost_ret (v := .tuple #[.agg #[.int .i64 1, .int .i64 n], .int .i64 0]) (by simp [results, Tryz.results72, go_sem, z0, z1]) rfl ⟨by rw [HS.out], HZ.bel⟩
      · replace HS := Kp.mk (HS.out.trans (show _ = (0, 0, false, f) by unfold sdF; rw [if_neg (by simp), if_neg (by simp), if_pos hf]))
        have hf2 : (f != 0) = true := by rw [bne_iff_ne]; exact hf
        go_wp2_with fail
        refine (HL.out _ (HV.out.below HB.out.bel)).mono ?_
        rintro e w9 ⟨rfl, hb9⟩
        replace HB := Kp.mk (HB.out.call hb9)
        clear hb9 d2 d5 r0 r1 f0 f1
        have d2 := blk_cell (i := 2) HB.out.b1 rfl
        have d5 := blk_cell (i := 5) HB.out.b1 rfl
        have r0 := blk_cell (i := 0) HB.out.b2 rfl
        have r1 := blk_cell (i := 1) HB.out.b2 rfl
        have f0 := blk_free (i := 0) HB.out.b2
        have f1 := blk_free (i := 1) HB.out.b2
        go_wp2_with fail
        have HZ := HB.out.put (.int .i64 0) (.int .i64 0)
        have z0 := blk_cell (i := 0) HZ.b2 rfl
        have z1 := blk_cell (i := 1) HZ.b2 rfl
        exact bodyPost_ret (v := .tuple #[.agg #[.int .i64 0, .int .i64 0], .int .i64 f]) (by simp [results, Tryz.results72, go_sem, z0, z1]) rfl ⟨by rw [HS.out], HZ.bel⟩
    · by_cases hm : mi ≤ 0
      · replace HS := Kp.mk (HS.out.trans (show _ = (0, 0, false, 14) by unfold sdF; rw [if_neg (by simp), if_pos rfl, if_pos (.inl hm)]))
        go_wp2_with fail
        have HZ := HB.out.put (.int .i64 0) (.int .i64 0)
        have z0 := blk_cell (i := 0) HZ.b2 rfl
        have z1 := blk_cell (i := 1) HZ.b2 rfl
        exact bodyPost_ret (v := .tuple #[.agg #[.int .i64 0, .int .i64 0], .int .i64 14]) (by simp [results, Tryz.results72, go_sem, z0, z1]) rfl ⟨by rw [HS.out], HZ.bel⟩
      · generalize hAll l nmCL = V at *
        by_cases hk : V.length = 0
        · replace HS := Kp.mk (HS.out.trans (show _ = (2, 0, true, 0) by unfold sdF; rw [if_neg (by simp), if_pos rfl, if_neg (by omega)]))
          rw [hk] at HCN
          clear hk
          go_wp2_with fail
          refine (HCN.out _ (HV.out.below HB.out.bel)).mono ?_
          rintro e w9 ⟨rfl, hb9⟩
          replace HB := Kp.mk (HB.out.call hb9)
          clear hb9 d2 d5 r0 r1 f0 f1
          have d2 := blk_cell (i := 2) HB.out.b1 rfl
          have d5 := blk_cell (i := 5) HB.out.b1 rfl
          have r0 := blk_cell (i := 0) HB.out.b2 rfl
          have r1 := blk_cell (i := 1) HB.out.b2 rfl
          have f0 := blk_free (i := 0) HB.out.b2
          have f1 := blk_free (i := 1) HB.out.b2
          go_wp2_with fail
          have HZ := HB.out.put (.int .i64 2) (.int .i64 0)
          have z0 := blk_cell (i := 0) HZ.b2 rfl
          have z1 := blk_cell (i := 1) HZ.b2 rfl
          exact bodyPost_ret (v := .tuple #[.agg #[.int .i64 2, .int .i64 0], .int .i64 0]) (by simp [results, Tryz.results72, go_sem, z0, z1]) rfl ⟨by rw [HS.out], HZ.bel⟩
        · replace HS := Kp.mk (HS.out.trans (show _ = (0, 0, false, 14) by unfold sdF; rw [if_neg (by simp), if_pos rfl, if_pos (.inr (by omega))]))
          have hk2 : (0 : Int) < (V.length : Int) := by omega
          go_wp2_with fail
          refine (HCN.out _ (HV.out.below HB.out.bel)).mono ?_
          rintro e w9 ⟨rfl, hb9⟩
          replace HB := Kp.mk (HB.out.call hb9)
          clear hb9 d2 d5 r0 r1 f0 f1
          have d2 := blk_cell (i := 2) HB.out.b1 rfl
          have d5 := blk_cell (i := 5) HB.out.b1 rfl
          have r0 := blk_cell (i := 0) HB.out.b2 rfl
          have r1 := blk_cell (i := 1) HB.out.b2 rfl
          have f0 := blk_free (i := 0) HB.out.b2
          have f1 := blk_free (i := 1) HB.out.b2
          go_wp2_with fail
          have HZ := HB.out.put (.int .i64 0) (.int .i64 0)
          have z0 := blk_cell (i := 0) HZ.b2 rfl
          have z1 := blk_cell (i := 1) HZ.b2 rfl
          exact bodyPost_ret (v := .tuple #[.agg #[.int .i64 0, .int .i64 0], .int .i64 14]) (by simp [results, Tryz.results72, go_sem, z0, z1]) rfl ⟨by rw [HS.out], HZ.bel⟩
  · replace HS := Kp.mk (HS.out.trans (show _ = (0, 0, false, ce) by unfold sdF; rw [if_pos hce]))
    have hc2 : (ce != 0) = true := by rw [bne_iff_ne]; exact hce
    go_wp2_with fail
    have HZ := HB.out.put (.int .i64 0) (.int .i64 0)
    have z0 := blk_cell (i := 0) HZ.b2 rfl
    have z1 := blk_cell (i := 1) HZ.b2 rfl
    exact bodyPost_ret (v := .tuple #[.agg #[.int .i64 0, .int .i64 0], .int .i64 ce]) (by simp [results, Tryz.results72, go_sem, z0, z1]) rfl ⟨by rw [HS.out], HZ.bel⟩
set_option maxRecDepth 100000 in
set_option maxHeartbeats 8000000 in
theorem rsaid_any (M T R : ByteArray) (mi st : Int) (v : Value) (l : List Fld) (w : World) (hv : RdF w v l) (hF : FewF l) :
    Calls Tryz.prog 75 #[.agg #[.string M, .string T, .int .i64 mi, .int .i64 st, .string R, v]] w fun e w' => e = .returned (.tuple #[.agg #[.int .i64 (sdR l mi).1, .int .i64 (sdR l mi).2.1], .bool (sdR l mi).2.2.1, .int .i64 (sdR l mi).2.2.2]) ∧ Below w.heap.size w w' := by
  have HV := Kp.mk hv
  have HSM := Kp.mk hF.sm
  have hl := hF.len
  have HC := Kp.mk (fun w hv => rchunk_any v l w hv hF)
  have HL := Kp.mk (fun w hv => rlenof_any v l w hv hF.sm (by omega))
  have HLN := Kp.mk (fun q => len_none (l := l) q)
  have HCN := Kp.mk (fun w hv => rhall_any v l nmCL2 w hv hF.sm (by omega) (by decide))
  unfold RetLn at HL
  have HS := Kp.mk (show sdR l mi = sdF (chF l).1 (chF l).2 mi (hAll l nmCL).length (lenF l).1 (lenF l).2.1 (lenF l).2.2 from rfl)
  obtain ⟨ad, cap, rfl, -, -, -⟩ := hv
  have hcl := hAll_len l nmCL
  generalize sdR l mi = S at *
  generalize (chF l).1 = c at *
  generalize (chF l).2 = ce at *
  generalize lenF l = LF at *
  obtain ⟨n, has, f⟩ := LF
  dsimp only at HL HS
  have HB := Kp.mk (Bx2.new w 33 37 (hdC M T mi st R (.slice ad l.length cap)) #[.int .i64 0, .int .i64 0])
  unfold hdC at HB
  rw [hAll_cl2] at HCN
  unfold RetS at HCN
  have d2 := blk_cell (i := 2) HB.out.b1 rfl
  have d5 := blk_cell (i := 5) HB.out.b1 rfl
  have r0 := blk_cell (i := 0) HB.out.b2 rfl
  have r1 := blk_cell (i := 1) HB.out.b2 rfl
  have f0 := blk_free (i := 0) HB.out.b2
  have f1 := blk_free (i := 1) HB.out.b2
  go_enter Tryz.func75, Tryz.ntmps75
  go_wp2_with fail
  refine (HC.out _ (HV.out.below HB.out.bel)).mono ?_
  rintro e w9 ⟨rfl, hb9⟩
  replace HB := Kp.mk (HB.out.call hb9)
  clear hb9 d2 d5 r0 r1 f0 f1
  have d2 := blk_cell (i := 2) HB.out.b1 rfl
  have d5 := blk_cell (i := 5) HB.out.b1 rfl
  have r0 := blk_cell (i := 0) HB.out.b2 rfl
  have r1 := blk_cell (i := 1) HB.out.b2 rfl
  have f0 := blk_free (i := 0) HB.out.b2
  have f1 := blk_free (i := 1) HB.out.b2
  go_wp2_with fail
  refine (HL.out _ (HV.out.below HB.out.bel)).mono ?_
  rintro e w9 ⟨rfl, hb9⟩
  replace HB := Kp.mk (HB.out.call hb9)
  clear hb9 d2 d5 r0 r1 f0 f1
  have d2 := blk_cell (i := 2) HB.out.b1 rfl
  have d5 := blk_cell (i := 5) HB.out.b1 rfl
  have r0 := blk_cell (i := 0) HB.out.b2 rfl
  have r1 := blk_cell (i := 1) HB.out.b2 rfl
  have f0 := blk_free (i := 0) HB.out.b2
  have f1 := blk_free (i := 1) HB.out.b2
  by_cases hce : ce = 0
  · subst hce
    cases c
    · by_cases hf : f = 0
      · subst hf
        cases has
        · replace HS := Kp.mk (HS.out.trans (show _ = (0, 0, false, 0) from rfl))
          go_wp2_with fail
          have HZ := HB.out.put (.int .i64 0) (.int .i64 0)
          have z0 := blk_cell (i := 0) HZ.b2 rfl
          have z1 := blk_cell (i := 1) HZ.b2 rfl
          exact bodyPost_ret (v := .tuple #[.agg #[.int .i64 0, .int .i64 0], .bool false, .int .i64 0]) (by simp [results, Tryz.results75, go_sem, z0, z1]) rfl ⟨by rw [HS.out], HZ.bel⟩
        · replace HS := Kp.mk (HS.out.trans (show _ = (1, n, true, 0) from rfl))
          go_wp2_with fail
          have HZ := HB.out.put (.int .i64 1) (.int .i64 n)
          have z0 := blk_cell (i := 0) HZ.b2 rfl
          have z1 := blk_cell (i := 1) HZ.b2 rfl
          exact bodyPost_ret (v := .tuple #[.agg #[.int .i64 1, .int .i64 n], .bool true, .int .i64 0]) (by simp [results, Tryz.results75, go_sem, z0, z1]) rfl ⟨by rw [HS.out], HZ.bel⟩
      · replace HS := Kp.mk (HS.out.trans (show _ = (0, 0, false, f) by unfold sdF; rw [if_neg (by simp), if_neg (by simp), if_pos hf]))
        have hf2 : (f != 0) = true := by rw [bne_iff_ne]; exact hf
        go_wp2_with fail
        have HZ := HB.out.put (.int .i64 0) (.int .i64 0)
        have z0 := blk_cell (i := 0) HZ.b2 rfl
        have z1 := blk_cell (i := 1) HZ.b2 rfl
        exact bodyPost_ret (v := .tuple #[.agg #[.int .i64 0, .int .i64 0], .bool false, .int .i64 f]) (by simp [results, Tryz.results75, go_sem, z0, z1]) rfl ⟨by rw [HS.out], HZ.bel⟩
    · by_cases hm : mi ≤ 0
      · replace HS := Kp.mk (HS.out.trans (show _ = (0, 0, false, 14) by unfold sdF; rw [if_neg (by simp), if_pos rfl, if_pos (.inl hm)]))
        have hm2 : mi < 1 := by omega
        go_wp2_with fail
        have HZ := HB.out.put (.int .i64 0) (.int .i64 0)
        have z0 := blk_cell (i := 0) HZ.b2 rfl
        have z1 := blk_cell (i := 1) HZ.b2 rfl
        exact bodyPost_ret (v := .tuple #[.agg #[.int .i64 0, .int .i64 0], .bool false, .int .i64 14]) (by simp [results, Tryz.results75, go_sem, z0, z1]) rfl ⟨by rw [HS.out], HZ.bel⟩
      · have hm2 : ¬ mi < 1 := by omega
        by_cases hk : (hAll l nmCL).length = 0
        · have HNL := Kp.mk (HLN.out hk)
          generalize hAll l nmCL = V at *
          have q := HNL.out
          simp only [Prod.mk.injEq] at q
          obtain ⟨q1, q2, q3⟩ := q
          subst q1 q2 q3
          replace HS := Kp.mk (HS.out.trans (show _ = (2, 0, true, 0) by unfold sdF; rw [if_neg (by simp), if_pos rfl, if_neg (by omega)]))
          rw [hk] at HCN
          clear hk HNL HLN
          go_wp2_with fail
          refine (HCN.out _ (HV.out.below HB.out.bel)).mono ?_
          rintro e w9 ⟨u9, rfl, ho9, hb9⟩
          replace HB := Kp.mk (HB.out.call hb9)
          obtain ⟨a9, c9, rfl⟩ := own_lenH ho9
          clear hb9 ho9 d2 d5 r0 r1 f0 f1
          have d2 := blk_cell (i := 2) HB.out.b1 rfl
          have d5 := blk_cell (i := 5) HB.out.b1 rfl
          have r0 := blk_cell (i := 0) HB.out.b2 rfl
          have r1 := blk_cell (i := 1) HB.out.b2 rfl
          have f0 := blk_free (i := 0) HB.out.b2
          have f1 := blk_free (i := 1) HB.out.b2
          go_wp2_with fail
          have HZ := HB.out.put (.int .i64 2) (.int .i64 0)
          have z0 := blk_cell (i := 0) HZ.b2 rfl
          have z1 := blk_cell (i := 1) HZ.b2 rfl
          exact bodyPost_ret (v := .tuple #[.agg #[.int .i64 2, .int .i64 0], .bool true, .int .i64 0]) (by simp [results, Tryz.results75, go_sem, z0, z1]) rfl ⟨by rw [HS.out], HZ.bel⟩
        · generalize hAll l nmCL = V at *
          replace HS := Kp.mk (HS.out.trans (show _ = (0, 0, false, 14) by unfold sdF; rw [if_neg (by simp), if_pos rfl, if_pos (.inr (by omega))]))
          have hk2 : (0 : Int) < (V.length : Int) := by omega
          go_wp2_with fail
          refine (HCN.out _ (HV.out.below HB.out.bel)).mono ?_
          rintro e w9 ⟨u9, rfl, ho9, hb9⟩
          replace HB := Kp.mk (HB.out.call hb9)
          obtain ⟨a9, c9, rfl⟩ := own_lenH ho9
          clear hb9 ho9 d2 d5 r0 r1 f0 f1
          have d2 := blk_cell (i := 2) HB.out.b1 rfl
          have d5 := blk_cell (i := 5) HB.out.b1 rfl
          have r0 := blk_cell (i := 0) HB.out.b2 rfl
          have r1 := blk_cell (i := 1) HB.out.b2 rfl
          have f0 := blk_free (i := 0) HB.out.b2
          have f1 := blk_free (i := 1) HB.out.b2
          go_wp2_with fail
          have HZ := HB.out.put (.int .i64 0) (.int .i64 0)
          have z0 := blk_cell (i := 0) HZ.b2 rfl
          have z1 := blk_cell (i := 1) HZ.b2 rfl
          exact bodyPost_ret (v := .tuple #[.agg #[.int .i64 0, .int .i64 0], .bool false, .int .i64 14]) (by simp [results, Tryz.results75, go_sem, z0, z1]) rfl ⟨by rw [HS.out], HZ.bel⟩
  · replace HS := Kp.mk (HS.out.trans (show _ = (0, 0, false, ce) by unfold sdF; rw [if_pos hce]))
    have hc2 : (ce != 0) = true := by rw [bne_iff_ne]; exact hce
    go_wp2_with fail
    have HZ := HB.out.put (.int .i64 0) (.int .i64 0)
    have z0 := blk_cell (i := 0) HZ.b2 rfl
    have z1 := blk_cell (i := 1) HZ.b2 rfl
    exact bodyPost_ret (v := .tuple #[.agg #[.int .i64 0, .int .i64 0], .bool false, .int .i64 ce]) (by simp [results, Tryz.results75, go_sem, z0, z1]) rfl ⟨by rw [HS.out], HZ.bel⟩
end Go.Proofs.YtkfpioadimkogaaGreatDoor
