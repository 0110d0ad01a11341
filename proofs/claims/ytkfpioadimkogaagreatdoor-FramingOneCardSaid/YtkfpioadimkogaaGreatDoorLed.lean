/- Lengths (layer 18): Of, the program's. -/
import Derived.Test.YtkfpioadimkogaaGreatDoorLec
import Derived.Test.YtkfpioadimkogaaGreatDoorHde
import Derived.Test.YtkfpioadimkogaaGreatDoorLse
import Derived.BigRegionIn
namespace Go.Proofs.YtkfpioadimkogaaGreatDoor
open Go.RowKit Go.Shelf
set_option linter.unusedVariables false
set_option linter.unusedSimpArgs false
attribute [local go_sem] Oper.semAt_some

def lnF (pre : List ByteArray) : Option (Option Int) := pre.foldl lnStep (some none)
theorem lnF_snoc (pre : List ByteArray) (x : ByteArray) : lnF (pre ++ [x]) = lnStep (lnF pre) x := by unfold lnF; rw [List.foldl_append]; rfl
theorem lnF_at (L : List ByteArray) : lnAt L L.length = lnF L := by unfold lnAt lnF; rw [List.take_length]
theorem lnR_good {L : List ByteArray} {o : Option Int} (h : lnF L = some o) : lnR L = ((ofS o).1, (ofS o).2, 0) := by
  unfold lnR
  rw [lnF_at, h]
  cases o <;> rfl
theorem lnR_bad {L pre : List ByteArray} (hp : pre <+: L) (h : lnF pre = none) : lnR L = (0, false, 14) := by
  obtain ⟨r, rfl⟩ := hp
  unfold lnR
  rw [lnF_at]
  have : lnF (pre ++ r) = none := by
    unfold lnF at *
    rw [List.foldl_append, h]
    exact ln_none _
  rw [this]
theorem lnS_bad {o : Option Int} {x : ByteArray} (h : numE 10 x 2147483647 ≠ 0) : lnStep (some o) x = none := by
  show (if _ then _ else _) = _
  rw [if_neg (fun q => h q.1)]
theorem lnS_first {x : ByteArray} (h : numE 10 x 2147483647 = 0) : lnStep (some none) x = some (some (numV 10 x 2147483647)) := by
  show (if _ then _ else _) = _
  rw [if_pos ⟨h, fun n hn => by cases hn⟩]
theorem lnS_same {x : ByteArray} {m : Int} (h : numE 10 x 2147483647 = 0) (hm : numV 10 x 2147483647 = m) : lnStep (some (some m)) x = some (some m) := by
  show (if _ then _ else _) = _
  rw [if_pos ⟨h, fun n hn => by cases hn; exact hm⟩, hm]
theorem lnS_other {x : ByteArray} {m : Int} (hm : numV 10 x 2147483647 ≠ m) : lnStep (some (some m)) x = none := by
  show (if _ then _ else _) = _
  rw [if_neg (fun q => hm (q.2 m rfl))]
structure LnI (h : Nat) (w : World) (pre : List ByteArray) (W : World) : Prop where
  st : ∃ o : Option Int, lnF pre = some o ∧ W.heap[h]? = some (.cells #[.int .i64 (ofS o).1] 3 (0, 0)) ∧ W.heap[h + 1]? = some (.cells #[.bool (ofS o).2] 4 (0, 0))
  r2 : W.heap[h + 2]? = some (.cells #[.int .i64 0] 38 (0, 0))
  bel : Below h w W
structure LnX (h : Nat) (w : World) (c : Code) (pre : List ByteArray) (W : World) : Prop where
  r0 : W.heap[h]? = some (.cells #[.int .i64 0] 3 (0, 0))
  r1 : W.heap[h + 1]? = some (.cells #[.bool false] 4 (0, 0))
  r2 : W.heap[h + 2]? = some (.cells #[.int .i64 14] 38 (0, 0))
  ret : c = .ret
  no : lnF pre = none
  bel : Below h w W
theorem LnI.abd {h lo hi : Nat} (hlo : h + 3 ≤ lo) (w : World) (pre : List ByteArray) : Abd lo hi (LnI h w pre) := fun A A' H hk => by
  obtain ⟨⟨o, s1, s2, s3⟩, r2, bel⟩ := H
  exact ⟨⟨o, s1, kpt_at hk s2 (.inl (by omega)), kpt_at hk s3 (.inl (by omega))⟩, kpt_at hk r2 (.inl (by omega)), ⟨hk.os.trans bel.os, hk.tape.trans bel.tape, hk.output.trans bel.output, Nat.le_trans bel.size hk.size, fun k hlt => (hk.block k (by have := blk_lt r2; omega) (.inl (by omega))).trans (bel.block k hlt)⟩⟩
theorem LnX.abd {h lo hi : Nat} (hlo : h + 3 ≤ lo) (w : World) (c : Code) (pre : List ByteArray) : Abd lo hi (LnX h w c pre) := fun A A' H hk => by
  obtain ⟨r0, r1, r2, rt, no, bel⟩ := H
  exact ⟨kpt_at hk r0 (.inl (by omega)), kpt_at hk r1 (.inl (by omega)), kpt_at hk r2 (.inl (by omega)), rt, no, ⟨hk.os.trans bel.os, hk.tape.trans bel.tape, hk.output.trans bel.output, Nat.le_trans bel.size hk.size, fun k hlt => (hk.block k (by have := blk_lt r2; omega) (.inl (by omega))).trans (bel.block k hlt)⟩⟩
def nmCL : ByteArray := ⟨#[67, 111, 110, 116, 101, 110, 116, 45, 76, 101, 110, 103, 116, 104]⟩
/-- P18.1 of fields. -/
def lenF (l : List Fld) : Int × Bool × Int := lnR (lnV (hAll l nmCL))
def RetLn (l : List Fld) (w : World) (e : Ending) (w' : World) : Prop := e = .returned (.tuple #[.int .i64 (lenF l).1, .bool (lenF l).2.1, .int .i64 (lenF l).2.2]) ∧ Below w.heap.size w w'
set_option maxRecDepth 100000 in
set_option maxHeartbeats 4000000 in
theorem lenof_any (v : Value) (l : List Fld) (w : World) (hv : RdF w v l) (hz : ∀ p ∈ l, FldSm p) (hl : l.length ≤ 10000) : Calls Tryz.prog 117 #[v] w (RetLn l w) := by
  have HV := Kp.mk hv
  have HAL := Kp.mk (fun w hv => hall_any v l nmCL w hv hz (by omega) (by decide))
  have hal := hAll_len l nmCL
  have HSM := Kp.mk (hAll_sm nmCL hz)
  have HR := Kp.mk (show lenF l = lnR (lnV (hAll l nmCL)) from rfl)
  unfold RetS at HAL
  unfold RetLn
  obtain ⟨ad, cap, rfl, -, -, -⟩ := hv
  generalize lenF l = R at *
  generalize hAll l nmCL = V at *
  have e1 : (w.alloc (.cells #[.int .i64 0] 3)).heap.size = w.heap.size + 1 := World.size_alloc _ _
  have e2 : ((w.alloc (.cells #[.int .i64 0] 3)).alloc (.cells #[.bool false] 4)).heap.size = w.heap.size + 2 := by rw [World.size_alloc, e1]
  have e3 : (((w.alloc (.cells #[.int .i64 0] 3)).alloc (.cells #[.bool false] 4)).alloc (.cells #[.int .i64 0] 38)).heap.size = w.heap.size + 3 := by rw [World.size_alloc, e2]
  have k1 := heap_alloc_new (w.alloc (.cells #[.int .i64 0] 3)) (.cells #[.bool false] 4)
  have k2 := heap_alloc_new ((w.alloc (.cells #[.int .i64 0] 3)).alloc (.cells #[.bool false] 4)) (.cells #[.int .i64 0] 38)
  rw [e1] at k1
  rw [e2] at k2
  have BL := ((Below.refl w.heap.size w).alloc (Nat.le_refl _) (.cells #[.int .i64 0] 3) |>.alloc (by rw [e1]; omega) (.cells #[.bool false] 4)).alloc (by rw [e2]; omega) (.cells #[.int .i64 0] 38)
  have HI0 := Kp.mk (show LnI w.heap.size w [] (((w.alloc (.cells #[.int .i64 0] 3)).alloc (.cells #[.bool false] 4)).alloc (.cells #[.int .i64 0] 38)) from
    ⟨⟨none, rfl, blk_alloc (blk_alloc (heap_alloc_new w _)), blk_alloc k1⟩, k2, BL⟩)
  have E3 := Kp.mk e3
  have HBL := Kp.mk BL
  clear e1 e2 e3 k1 k2 BL
  refine (callsIn_wide (n := 5)).1 ?_
  refine callsIn_of_wp_marks Tryz.func117 rfl trivial ?_ rfl
  simp only [Tryz.ntmps117, List.size_toArray, List.length_cons, List.length_nil, Nat.reduceAdd, Nat.reduceSub, Array.replicate_succ, Array.replicate_zero, List.push_toArray, List.append_toArray, List.nil_append, List.cons_append]
  gi_wp2_with fail
  refine ⟨trivial, (callsIn_wide.2 (HAL.out _ (HV.out.below HBL.out))).mono ?_⟩
  rintro e w1 ⟨u, rfl, ho, hb⟩
  have HRD := Kp.mk (rds_own ho)
  have HOB := Kp.mk (fun k (q : u.ownBlock = some k) => (ho.lt k q))
  have HI1 := Kp.mk (LnI.abd (lo := w.heap.size + 3) (hi := w.heap.size + 3) (Nat.le_refl _) w [] _ _ HI0.out (Kpt.of hb))
  have hs1 := hb.size
  rw [E3.out] at hs1 HOB
  obtain ⟨a1, c1, rfl⟩ := own_lenH ho
  clear ho hb HAL
  gi_wp2_with fail
  refine ⟨trivial, (callsIn_wide.2 (lparts_any (.slice a1 V.length c1) _ ⟨_, _, _, rfl⟩)).mono ?_⟩
  rintro e w2 ⟨rfl, rfl⟩
  have HB3 := Kp.mk (heap_alloc_new w1 (.cells #[.slice a1 V.length c1] 55))
  have HRD2 := Kp.mk (HRD.out.below ((Below.refl w1.heap.size w1).alloc (Nat.le_refl _) (.cells #[.slice a1 V.length c1] 55)))
  have HI2 := Kp.mk (LnI.abd (lo := w.heap.size + 3) (hi := w.heap.size + 3) (Nat.le_refl _) w [] _ _ HI1.out ((Kpt.refl _ w1).alloc (.cells #[.slice a1 V.length c1] 55)))
  have HS2 := Kp.mk (show (w1.alloc (.cells #[.slice a1 V.length c1] 55)).heap.size = w1.heap.size + 1 from World.size_alloc _ _)
  gi_wp2_with fail
  generalize hw0 : w1.alloc (.cells #[.slice a1 V.length c1] 55) = w0 at *
  generalize hh : w.heap.size = h at *
  generalize hb1 : w1.heap.size = b at *
  have hs2 := HS2.out
  have hvl : V.length ≤ 100000 := by omega
  have HSM2 := Kp.mk (fun s (hs : s ∈ V) => HSM.out s hs)
  simp only [Nat.add_assoc, Nat.reduceAdd]
  refine rfp_law (n := 5) rfl (by omega) (gf := 180) (lb := #[.pointer (some ⟨b, 0, none⟩)]) rfl trivial (enters_of Tryz.func180 (by kernel_rfl) rfl)
    (fun k => h + 3 ≤ k) (b + 3) (by omega) (fun j a b => by omega)
    (S := fun xs => xs = lnV V) (Sp := fun pre => pre <+: lnV V) (N := (lnV V).length + 1) (Px := fun x => x.size ≤ 100000) (encs := lcs) ?seq (fun x => rfl) (LnI h w) (LnX h w)
    (fun pre => LnI.abd (by omega) _ _) (fun c pre => LnX.abd (by omega) _ _ _) HI2.out
    (fun x => { tmps := #[.slice ad l.length cap, undef, .pointer (some ⟨h, 0, none⟩), .pointer (some ⟨h + 1, 0, none⟩), .pointer (some ⟨h + 2, 0, none⟩), .string x, undef, undef, .slice ad l.length cap, .slice a1 V.length c1, .func (.func 180) #[] #[.pointer (some ⟨b, 0, none⟩)], .string x, undef, undef, undef, undef, undef, undef, undef, undef, undef, undef, undef, undef, undef, undef, undef, undef, undef, undef], defers := [] }) ?assign ?body ?done ?stop
  case seq =>
    intro W hW hb
    have hbw := blk_lt HB3.out
    have e := lparts_seq 4 (w0.heap.size + 1) b (.slice a1 V.length c1) V (fun j => h + 3 ≤ j ∧ j ≠ w0.heap.size + 1) W (HRD2.out.below hb) HSM2.out hvl (by omega) (fun k q => by have := HOB.out k q; omega) (fun k q => by omega) ((hb.block _ hbw).trans HB3.out) (by omega)
    rw [show W.heap.size = b + 3 by omega] at e
    exact e
  case assign =>
    rintro l x W K hK
    simp only [lcs]
    gi_wp2
    exact hK
  case body =>
    rintro l2 pre x W hxs hI hlen hz2
    obtain ⟨⟨o, s1, s2, s3⟩, r2, bel⟩ := hI
    have S1 := Kp.mk s1
    have S2 := Kp.mk s2
    have S3 := Kp.mk s3
    have R2 := Kp.mk r2
    have BEL := Kp.mk bel
    have hlt2 := blk_lt r2
    clear s1 s2 s3 r2 bel
    have HD := Kp.mk (fun w => dec_any x 2147483647 w (by unfold maxLen; omega) (by omega) (by omega))
    have HB1 := Kp.mk (fun q => lnS_bad (o := o) (x := x) q)
    have HF1 := Kp.mk (fun q => lnS_first (x := x) q)
    have HM1 := Kp.mk (fun m q r => lnS_same (x := x) (m := m) q r)
    have HO1 := Kp.mk (fun m r => lnS_other (x := x) (m := m) r)
    have HSN := Kp.mk (lnF_snoc pre x)
    rw [S1.out] at HSN
    generalize numE 10 x 2147483647 = de at *
    generalize numV 10 x 2147483647 = dn at *
    gi_wp2_with fail
    refine ⟨trivial, (callsIn_wide.2 (HD.out _)).mono ?_⟩
    rintro e W2 ⟨rfl, hb⟩
    have T2 := Kp.mk ((hb.block h (by omega)).trans S2.out)
    have T3 := Kp.mk ((hb.block (h + 1) (by omega)).trans S3.out)
    have T4 := Kp.mk ((hb.block (h + 2) (by omega)).trans R2.out)
    have BE2 := Kp.mk (BEL.out.trans (hb.mono (by omega)))
    have K0 := Kp.mk (Kpt.of (F := fun k => h + 3 ≤ k) hb)
    have c0 := blk_cell (i := 0) T2.out rfl
    have c1 := blk_cell (i := 0) T3.out rfl
    have c2 := blk_cell (i := 0) T4.out rfl
    have f0 := blk_free (i := 0) T2.out
    have f1 := blk_free (i := 0) T3.out
    have f2 := blk_free (i := 0) T4.out
    clear hb
    by_cases hde : de = 0
    · subst hde
      cases o with
      | none =>
        have HN := Kp.mk (HSN.out.trans (HF1.out rfl))
        simp only [ofS] at c0 c1 T2 T3
        gi_wp2_with fail
        exact ⟨(K0.out.setCell _ _ (by omega)).setCell _ _ (by omega), ⟨⟨some dn, HN.out, blk_set_other (blk_set T2.out _) (by omega) _, blk_set (blk_set_other T3.out (by omega) _) _⟩, blk_set_other (blk_set_other T4.out (by omega) _) (by omega) _, (BE2.out.setCell (by simp) _).setCell (by simp) _⟩⟩
      | some m =>
        simp only [ofS] at c0 c1 T2 T3
        by_cases hm : dn = m
        · have HN := Kp.mk (HSN.out.trans (HM1.out m rfl hm))
          subst hm
          gi_wp2_with fail
          exact ⟨(K0.out.setCell _ _ (by omega)).setCell _ _ (by omega), ⟨⟨some dn, HN.out, blk_set_other (blk_set T2.out _) (by omega) _, blk_set (blk_set_other T3.out (by omega) _) _⟩, blk_set_other (blk_set_other T4.out (by omega) _) (by omega) _, (BE2.out.setCell (by simp) _).setCell (by simp) _⟩⟩
        · have HN := Kp.mk (HSN.out.trans (HO1.out m hm))
          have hm2 : (dn != m) = true := by rw [bne_iff_ne]; exact hm
          gi_wp2_with fail
          exact ⟨((K0.out.setCell _ _ (by omega)).setCell _ _ (by omega)).setCell _ _ (by omega), ⟨blk_set_other (blk_set_other (blk_set T2.out _) (by omega) _) (by omega) _, blk_set_other (blk_set (blk_set_other T3.out (by omega) _) _) (by omega) _, blk_set (blk_set_other (blk_set_other T4.out (by omega) _) (by omega) _) _, rfl, HN.out, ((BE2.out.setCell (by simp) _).setCell (by simp) _).setCell (by simp) _⟩⟩
    · have HN := Kp.mk (HSN.out.trans (HB1.out hde))
      have hd2 : (de != 0) = true := by rw [bne_iff_ne]; exact hde
      gi_wp2_with fail
      exact ⟨((K0.out.setCell _ _ (by omega)).setCell _ _ (by omega)).setCell _ _ (by omega), ⟨blk_set_other (blk_set_other (blk_set T2.out _) (by omega) _) (by omega) _, blk_set_other (blk_set (blk_set_other T3.out (by omega) _) _) (by omega) _, blk_set (blk_set_other (blk_set_other T4.out (by omega) _) (by omega) _) _, rfl, HN.out, ((BE2.out.setCell (by simp) _).setCell (by simp) _).setCell (by simp) _⟩⟩
  case done =>
    rintro xs W rfl hI hK
    obtain ⟨⟨o, s1, s2, s3⟩, r2, bel⟩ := hI
    have HL := Kp.mk (HR.out.trans (lnR_good s1))
    have S2 := Kp.mk s2
    have S3 := Kp.mk s3
    have R2 := Kp.mk r2
    have BEL := Kp.mk bel
    have HK := Kp.mk hK
    have c0 := blk_cell (i := 0) s2 rfl
    have c1 := blk_cell (i := 0) s3 rfl
    have c2 := blk_cell (i := 0) r2 rfl
    have f0 := blk_free (i := 0) s2
    have f1 := blk_free (i := 0) s3
    have f2 := blk_free (i := 0) r2
    clear s1 s2 s3 r2 bel hK
    gi_wp2_with fail
    gi_region
    gi_wp2_with fail
    generalize (ofS o).1 = o1 at *
    generalize (ofS o).2 = o2 at *
    have D0 : ((((W.setCell ⟨h, 0, none⟩ (.int .i64 o1)).setCell ⟨h + 1, 0, none⟩ (.bool o2)).setCell ⟨h + 2, 0, none⟩ (.int .i64 0)).drew).heap[w0.heap.size]? = some (.deferred (some [])) := blk_set_other (blk_set_other (blk_set_other HK.out (by omega) _) (by omega) _) (by omega) _
    refine ⟨by simp, .inl ⟨_, _, rfl, run_takeDeferred D0, ?_⟩⟩
    have Z0 : ((((W.setCell ⟨h, 0, none⟩ (.int .i64 o1)).setCell ⟨h + 1, 0, none⟩ (.bool o2)).setCell ⟨h + 2, 0, none⟩ (.int .i64 0)).drew).heap[h]? = some (.cells #[.int .i64 o1] 3 (0, 0)) := blk_set_other (blk_set_other (blk_set S2.out _) (by omega) _) (by omega) _
    have Z1 : ((((W.setCell ⟨h, 0, none⟩ (.int .i64 o1)).setCell ⟨h + 1, 0, none⟩ (.bool o2)).setCell ⟨h + 2, 0, none⟩ (.int .i64 0)).drew).heap[h + 1]? = some (.cells #[.bool o2] 4 (0, 0)) := blk_set_other (blk_set (blk_set_other S3.out (by omega) _) _) (by omega) _
    have Z2 : ((((W.setCell ⟨h, 0, none⟩ (.int .i64 o1)).setCell ⟨h + 1, 0, none⟩ (.bool o2)).setCell ⟨h + 2, 0, none⟩ (.int .i64 0)).drew).heap[h + 2]? = some (.cells #[.int .i64 0] 38 (0, 0)) := blk_set (blk_set_other (blk_set_other R2.out (by omega) _) (by omega) _) _
    have BL : Below h w ((((W.setCell ⟨h, 0, none⟩ (.int .i64 o1)).setCell ⟨h + 1, 0, none⟩ (.bool o2)).setCell ⟨h + 2, 0, none⟩ (.int .i64 0)).drew) := (((BEL.out.setCell (p := ⟨h, 0, none⟩) (by simp) _).setCell (p := ⟨h + 1, 0, none⟩) (by simp) _).setCell (p := ⟨h + 2, 0, none⟩) (by simp) _).drew
    generalize ((((W.setCell ⟨h, 0, none⟩ (.int .i64 o1)).setCell ⟨h + 1, 0, none⟩ (.bool o2)).setCell ⟨h + 2, 0, none⟩ (.int .i64 0)).drew) = W2 at *
    have z0 := blk_cell (i := 0) ((World.putObj_heap_other (w := W2) (r := w0.heap.size) (o := .deferred none) (k := h) (by omega)).trans Z0) rfl
    have z1 := blk_cell (i := 0) ((World.putObj_heap_other (w := W2) (r := w0.heap.size) (o := .deferred none) (k := h + 1) (by omega)).trans Z1) rfl
    have z2 := blk_cell (i := 0) ((World.putObj_heap_other (w := W2) (r := w0.heap.size) (o := .deferred none) (k := h + 2) (by omega)).trans Z2) rfl
    refine ⟨.tuple #[.int .i64 o1, .bool o2, .int .i64 0], ?_, ?_⟩
    · rw [hs2] at z0 z1 z2 ⊢
      simp [results, Tryz.results117, go_sem, z0, z1, z2, Result.andThen]
    · refine ⟨by rw [HL.out], ?_⟩
      rw [hh]
      exact below_put BL (by omega) D0
  case stop =>
    rintro c pre W hp hX hK
    obtain ⟨r0, r1, r2, rfl, no, bel⟩ := hX
    have HL := Kp.mk (HR.out.trans (lnR_bad hp no))
    have R0 := Kp.mk r0
    have R1 := Kp.mk r1
    have R2 := Kp.mk r2
    have BEL := Kp.mk bel
    have HK := Kp.mk hK
    clear r0 r1 r2 no bel hK
    gi_wp2_with fail
    refine ⟨by simp, .inl ⟨_, _, rfl, run_takeDeferred HK.out, ?_⟩⟩
    have z0 := blk_cell (i := 0) ((World.putObj_heap_other (w := W) (r := w0.heap.size) (o := .deferred none) (k := h) (by omega)).trans R0.out) rfl
    have z1 := blk_cell (i := 0) ((World.putObj_heap_other (w := W) (r := w0.heap.size) (o := .deferred none) (k := h + 1) (by omega)).trans R1.out) rfl
    have z2 := blk_cell (i := 0) ((World.putObj_heap_other (w := W) (r := w0.heap.size) (o := .deferred none) (k := h + 2) (by omega)).trans R2.out) rfl
    refine ⟨.tuple #[.int .i64 0, .bool false, .int .i64 14], ?_, ?_⟩
    · rw [hs2] at z0 z1 z2 ⊢
      simp [results, Tryz.results117, go_sem, z0, z1, z2, Result.andThen]
    · refine ⟨by rw [HL.out], ?_⟩
      rw [hh]
      exact below_put BEL.out (by omega) HK.out
end Go.Proofs.YtkfpioadimkogaaGreatDoor
