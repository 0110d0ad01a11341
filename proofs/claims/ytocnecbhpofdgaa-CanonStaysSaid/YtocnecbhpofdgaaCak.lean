/- Heads in one form (layer 50): the document's Fields (bin/mkcak.py). -/
import Derived.Test.YtocnecbhpofdgaaCag
import Derived.Test.YtocnecbhpofdgaaCae
import Derived.Test.YtocnecbhpofdgaaCaj
namespace Go.Proofs.Ytocnecbhpofdgaa
open Go.RowKit
set_option linter.unusedVariables false
set_option linter.unusedSimpArgs false

theorem gdrew1 (w : World) : Below w.heap.size w w.drew := ⟨rfl, rfl, rfl, Nat.le_refl _, fun _ _ => rfl⟩
theorem preF {w : World} {a : Option Addr} {c : Nat} {l : List Fld} (h : RdF w (.slice a l.length c) l) {n : Nat} (hn : n ≤ l.length) : RdF w (.slice a n c) (l.take n) := by
  obtain ⟨a', c', e, h1, h2, h3⟩ := h
  cases e
  have hl : (l.take n).length = n := by rw [List.length_take]; omega
  refine ⟨a, c, by rw [hl], by omega, h2, fun h0 => ?_⟩
  obtain ⟨b, o, e1, e2, e3⟩ := h3 (by omega)
  refine ⟨b, o, e1, e2, fun j hj i hi => ?_⟩
  have hj2 : j < l.length := by omega
  rw [List.getElem_take]
  exact e3 j hj2 i hi
theorem fst_step {l : List Fld} {k : Nat} (h : k < l.length) : fstK (l.take (k + 1)) = if lowB l[k].1 ∈ fstK (l.take k) then fstK (l.take k) else fstK (l.take k) ++ [lowB l[k].1] := by
  rw [List.take_succ_eq_append_getElem h, fstK_snoc]
theorem hAll_in (l : List Fld) (nm : ByteArray) : 0 < (hAll l nm).length ↔ lowB nm ∈ fstK l := by
  rw [hAll_K, List.length_map, fstK_mem, List.length_pos_iff_exists_mem]
  constructor
  · rintro ⟨g, hg⟩
    exact ⟨g, (List.mem_filter.1 hg).1, of_decide_eq_true (List.mem_filter.1 hg).2⟩
  · rintro ⟨g, hg, e⟩
    exact ⟨g, List.mem_filter.2 ⟨hg, decide_eq_true e⟩⟩
theorem hKey_nm (l : List Fld) (nm : ByteArray) : hKey l (lowB nm) = (if sgB nm then hAll l nm else [hJoin (hAll l nm)]).map fun y => (nameB nm, trimB y) := by
  unfold hKey
  rw [hAll_K, sgB_K]
  rfl
theorem rFld_part {l : List Fld} (k : Nat) (hl : l.length ≤ 100) : ((fstK (l.take k)).flatMap (hKey l)).length ≤ 10000 := by
  have h1 : ∀ K : List ByteArray, (K.flatMap (hKey l)).length ≤ K.length * 100 := by
    intro K
    induction K with
    | nil => exact Nat.le_refl _
    | cons x K ih =>
      have h2 : (hKey l x).length ≤ 100 := by
        unfold hKey
        rw [List.length_map]
        have h3 : (ofK l x).length ≤ l.length := List.length_filter_le _ _
        split
        · rw [List.length_map]; omega
        · simp
      rw [List.flatMap_cons, List.length_append, List.length_cons, Nat.succ_mul]
      omega
  have h4 : ∀ m : List Fld, (fstK m).length ≤ m.length := by
    intro m
    refine snocI (P := fun m => (fstK m).length ≤ m.length) (by simp [fstK]) (fun m f ih => ?_) m
    rw [fstK_snoc, List.length_append]
    split
    · simp; omega
    · simp; omega
  have h5 := h4 (l.take k)
  rw [List.length_take] at h5
  have h6 := h1 (fstK (l.take k))
  have h7 : (fstK (l.take k)).length * 100 ≤ 100 * 100 := Nat.mul_le_mul_right _ (by omega)
  omega
set_option maxRecDepth 100000 in
set_option maxHeartbeats 2000000 in
theorem rfields_any (v : Value) (l : List Fld) (w : World) (hv : RdF w v l) (hz : ∀ p ∈ l, FldSm p) (hl : l.length ≤ 100) :
    Calls Try.prog 25 #[v] w (RetF (rFld l) w) := by
  have HV := Kp.mk hv
  have HZ := Kp.mk hz
  obtain ⟨a, c, rfl, hc1, hc2, -⟩ := hv
  have HPR := Kp.mk (fun W (hb : Below w.heap.size w W) k (hk : k ≤ l.length) => preF (HV.out.below hb) hk)
  have HA := Kp.mk (fun nm (hn : nm.size ≤ 100000) W (hb : Below w.heap.size w W) => rhall_any _ l nm W (HV.out.below hb) HZ.out (by omega) hn)
  have HPA0 := Kp.mk (fun k (hk : k ≤ l.length) nm (hn : nm.size ≤ 100000) W (hb : Below w.heap.size w W) => rhall_any _ (l.take k) nm W (HPR.out W hb k hk) (fun p hp => HZ.out p (List.mem_of_mem_take hp)) (by rw [List.length_take]; omega) hn)
  have HR := Kp.mk (show rFld l = (fstK l).flatMap (hKey l) from rfl)
  have HLP := Kp.mk (fun k => rFld_part (l := l) k hl)
  clear hz
  generalize hn : l.length = n at *
  have HN := Kp.mk hn
  clear hn HPR
  go_enter Try.func25, Try.ntmps25
  go_wp2_with fail
  go_loopw [3, 4] (fun ov i wr => ∃ k : Nat, k ≤ n ∧ i = .int .i64 k ∧ wr.ownsRow w.heap.size 64 2 ov ((fstK (l.take k)).flatMap (hKey l)).length (fvH ((fstK (l.take k)).flatMap (hKey l))) ∧ Below w.heap.size w wr) (fun _ i _ => n - (intOf i).toNat)
  case atStart => exact ⟨0, Nat.zero_le _, rfl, World.ownsRow_made _ _ 0 (Nat.le_refl _) (by unfold maxLen; omega) rfl, (Below.refl _ _).alloc (Nat.le_refl _) _⟩
  case round =>
    obtain ⟨k, hk, rfl, ho, hb⟩ := hrel
    have HO := Kp.mk ho
    have HB := Kp.mk hb
    clear ho hb
    by_cases hlt : k < n
    · have hkl : k < l.length := by have := HN.out; omega
      obtain ⟨g, o, rfl, hg, d⟩ := rdf_cells (w := w) (by rw [← HN.out] at HV; exact HV.out) (by omega)
      have HEND0 := Kp.mk (show (fstK (l.take (k + 1))).flatMap (hKey l) = if lowB l[k].1 ∈ fstK (l.take k) then (fstK (l.take k)).flatMap (hKey l) else (fstK (l.take k)).flatMap (hKey l) ++ hKey l (lowB l[k].1) by
        rw [fst_step hkl]
        split
        · rfl
        · rw [List.flatMap_append, List.flatMap_singleton])
      have HIN := Kp.mk (hAll_in (l.take k) l[k].1)
      have HKEY := Kp.mk (hKey_nm l l[k].1)
      have HNS := Kp.mk (HZ.out _ (List.getElem_mem hkl)).1
      have HV0 := Kp.mk (show 0 < (hAll l l[k].1).length from (hAll_in l l[k].1).2 ((fstK_mem l _).2 ⟨l[k], List.getElem_mem hkl, rfl⟩))
      have HA0 := Kp.mk (show ((fstK (l.take k)).flatMap (hKey l)).length ≤ 10000 from HLP.out k)
      have CW := Kp.mk (d k hkl).1
      have c1 := (HB.out.cell (p := ⟨g, o + k * 2, none⟩) hg).trans CW.out
      have hgl2 : g < wr.heap.size := Nat.lt_of_lt_of_le hg HB.out.size
      have HPA := Kp.mk (fun W (hb : Below wr.heap.size wr W) => HPA0.out k hk l[k].1 HNS.out W (HB.out.trans (hb.mono HB.out.size)))
      have HAA := Kp.mk (fun W hb => HA.out l[k].1 HNS.out W hb)
      have HVS := Kp.mk (hAll_sm l[k].1 HZ.out)
      have HVL := Kp.mk (show (hAll l l[k].1).length ≤ 100 by have := hAll_len l l[k].1; have := HN.out; omega)
      have q1 : (k : Int) < (n : Int) := by omega
      have q2 : (k : Int) ≤ (n : Int) := by omega
      have q3 : (k : Int) ≤ (c : Int) := by omega
      have q0 : (0 : Int) ≤ (k : Int) := by omega
      clear d
      generalize l[k].1 = nm at *
      generalize (fstK (l.take k)).flatMap (hKey l) = acc0 at *
      generalize hAll (l.take k) nm = P at *
      generalize hAll l nm = V at *
      have HNA := Kp.mk (fun w => rname_any nm w (Nat.le_trans HNS.out (by omega)))
      have HSG := Kp.mk (fun w => rsingle_any nm w (Nat.le_trans HNS.out (by omega)))
      go_upto_region 5 with fail
      by_cases hin : 0 < P.length
      · have HSAME := Kp.mk (HEND0.out.trans (if_pos (HIN.out.1 hin)))
        have qp : (0 : Int) < (P.length : Int) := by omega
        refine wp_region_held_drew (S := fun w' => w'.cell? ⟨g, o + k * 2, none⟩ = some (.string nm)) (by kernel_rfl) (show wr.drew.cell? ⟨g, o + k * 2, none⟩ = some (.string nm) from c1) (fun hHeld => ?_)
        refine wpAnyH_take (i := 0) (oi := ⟨some 14, .move (.tmp 0), _, _, _, none⟩) (v := ?_) rfl (by kernel_rfl) (by kernel_rfl) (by kernel_rfl) (fun _ _ _ h => h) (Or.inl ⟨by rfl, ?_⟩) (by assumption) ?_
        rotate_left
        · intro w hSw
          try dsimp only at hSw
          go_simp
          try with_reducible rfl
        try simp only [Act.put, List.setIfInBounds_toArray, List.set_cons_zero, List.set_cons_succ]
        refine wpAnyH_take (i := 1) (oi := ⟨some 15, .move (.tmp 4), _, _, _, none⟩) (v := ?_) rfl (by kernel_rfl) (by kernel_rfl) (by kernel_rfl) (fun _ _ _ h => h) (Or.inl ⟨by rfl, ?_⟩) (by assumption) ?_
        rotate_left
        · intro w hSw
          try dsimp only at hSw
          go_simp
          try with_reducible rfl
        try simp only [Act.put, List.setIfInBounds_toArray, List.set_cons_zero, List.set_cons_succ]
        refine wpAnyH_take (i := 2) (oi := ⟨some 16, .slice 22 (.tmp 14) none (some (.tmp 15)) none, _, _, _, none⟩) (v := ?_) rfl (by kernel_rfl) (by kernel_rfl) (by kernel_rfl) (fun _ _ _ h => h) (Or.inl ⟨by rfl, ?_⟩) (by assumption) ?_
        rotate_left
        · intro w hSw
          try dsimp only at hSw
          go_simp
          try with_reducible rfl
        try simp only [Act.put, List.setIfInBounds_toArray, List.set_cons_zero, List.set_cons_succ]
        refine wpAnyH_take (i := 3) (oi := ⟨some 17, .move (.tmp 0), _, _, _, none⟩) (v := ?_) rfl (by kernel_rfl) (by kernel_rfl) (by kernel_rfl) (fun _ _ _ h => h) (Or.inl ⟨by rfl, ?_⟩) (by assumption) ?_
        rotate_left
        · intro w hSw
          try dsimp only at hSw
          go_simp
          try with_reducible rfl
        try simp only [Act.put, List.setIfInBounds_toArray, List.set_cons_zero, List.set_cons_succ]
        refine wpAnyH_take (i := 4) (oi := ⟨some 18, .move (.tmp 4), _, _, _, none⟩) (v := ?_) rfl (by kernel_rfl) (by kernel_rfl) (by kernel_rfl) (fun _ _ _ h => h) (Or.inl ⟨by rfl, ?_⟩) (by assumption) ?_
        rotate_left
        · intro w hSw
          try dsimp only at hSw
          go_simp
          try with_reducible rfl
        try simp only [Act.put, List.setIfInBounds_toArray, List.set_cons_zero, List.set_cons_succ]
        refine wpAnyH_take (i := 5) (oi := ⟨some 19, .indexAddr 22 (.tmp 17) (.tmp 18), _, _, _, none⟩) (v := ?_) rfl (by kernel_rfl) (by kernel_rfl) (by kernel_rfl) (fun _ _ _ h => h) (Or.inl ⟨by rfl, ?_⟩) (by assumption) ?_
        rotate_left
        · intro w hSw
          try dsimp only at hSw
          go_simp
          try with_reducible rfl
        try simp only [Act.put, List.setIfInBounds_toArray, List.set_cons_zero, List.set_cons_succ]
        refine wpAnyH_take (i := 6) (oi := ⟨some 20, .fieldAddr 64 (.tmp 19) 0, _, _, _, none⟩) (v := ?_) rfl (by kernel_rfl) (by kernel_rfl) (by kernel_rfl) (fun _ _ _ h => h) (Or.inl ⟨by rfl, ?_⟩) (by assumption) ?_
        rotate_left
        · intro w hSw
          try dsimp only at hSw
          go_simp
          try with_reducible rfl
        try simp only [Act.put, List.setIfInBounds_toArray, List.set_cons_zero, List.set_cons_succ]
        refine wpAnyH_take (i := 7) (oi := ⟨some 21, .load 9 (.tmp 20), _, _, _, none⟩) (v := ?_) rfl (by kernel_rfl) (by kernel_rfl) (by kernel_rfl) (fun _ _ _ h => h) (Or.inl ⟨by rfl, ?_⟩) (by assumption) ?_
        rotate_left
        · intro w hSw
          try dsimp only at hSw
          go_simp
          try with_reducible rfl
        try simp only [Act.put, List.setIfInBounds_toArray, List.set_cons_zero, List.set_cons_succ]
        refine wpAnyH_ready (rs := [8]) (by kernel_rfl) (by simp) ?_
        refine AllReadyH.cons (o := ⟨some 22, _, _, _, _, none⟩) rfl (fun K hK => ?_) AllReadyH.nil
        go_simp
        (go_at_call 47; refine (HPA.out _ (gdrew1 _)).mono ?_; rintro e wq ⟨vp, rfl, hop, hb⟩)
        have HB2 := Kp.mk ((gdrew1 wr).trans hb)
        have C2 := Kp.mk ((HB2.out.cell (p := ⟨g, o + k * 2, none⟩) hgl2).trans c1)
        obtain ⟨ap, cp, rfl⟩ := own_lenH hop
        clear hop
        clear hb
        try go_wp2_with fail
        refine hK.out _ _ (C2.out) (fun hHeld2 => ?_)
        clear hK K
        try simp only [Act.put, List.setIfInBounds_toArray, List.set_cons_zero, List.set_cons_succ]
        refine wpAnyH_take (i := 9) (oi := ⟨some 23, .call { callee := .builtin .len, args := #[.tmp 22], argTypes := #[61] }, _, _, _, none⟩) (v := ?_) rfl (by kernel_rfl) (by kernel_rfl) (by kernel_rfl) (fun _ _ _ h => h) (Or.inl ⟨by rfl, ?_⟩) (by assumption) ?_
        rotate_left
        · intro w hSw
          try dsimp only at hSw
          go_simp
          try with_reducible rfl
        try simp only [Act.put, List.setIfInBounds_toArray, List.set_cons_zero, List.set_cons_succ]
        refine wpAnyH_take (i := 10) (oi := ⟨some 24, .binOp .gtr 3 (.tmp 23) (.const (.int .i64 0)) 3, _, _, _, none⟩) (v := ?_) rfl (by kernel_rfl) (by kernel_rfl) (by kernel_rfl) (fun _ _ _ h => h) (Or.inl ⟨by rfl, ?_⟩) (by assumption) ?_
        rotate_left
        · intro w hSw
          try dsimp only at hSw
          go_simp
          try with_reducible rfl
        try simp only [Act.put, List.setIfInBounds_toArray, List.set_cons_zero, List.set_cons_succ]
        refine wpAnyH_done (by kernel_rfl) ?_ _
        go_wp2_with fail
        go_roundw
        case rel => exact ⟨k + 1, by omega, by go_num, (by rw [HSAME.out]; exact own_bel HO.out HB2.out), HB.out.trans (HB2.out.mono HB.out.size)⟩
        case measure => simp [intOf] <;> omega
      · replace HEND0 := Kp.mk (HEND0.out.trans (if_neg (fun h => hin (HIN.out.2 h))))
        have qp : ¬ (0 : Int) < (P.length : Int) := by omega
        refine wp_region_held_drew (S := fun w' => w'.cell? ⟨g, o + k * 2, none⟩ = some (.string nm)) (by kernel_rfl) (show wr.drew.cell? ⟨g, o + k * 2, none⟩ = some (.string nm) from c1) (fun hHeld => ?_)
        refine wpAnyH_take (i := 0) (oi := ⟨some 14, .move (.tmp 0), _, _, _, none⟩) (v := ?_) rfl (by kernel_rfl) (by kernel_rfl) (by kernel_rfl) (fun _ _ _ h => h) (Or.inl ⟨by rfl, ?_⟩) (by assumption) ?_
        rotate_left
        · intro w hSw
          try dsimp only at hSw
          go_simp
          try with_reducible rfl
        try simp only [Act.put, List.setIfInBounds_toArray, List.set_cons_zero, List.set_cons_succ]
        refine wpAnyH_take (i := 1) (oi := ⟨some 15, .move (.tmp 4), _, _, _, none⟩) (v := ?_) rfl (by kernel_rfl) (by kernel_rfl) (by kernel_rfl) (fun _ _ _ h => h) (Or.inl ⟨by rfl, ?_⟩) (by assumption) ?_
        rotate_left
        · intro w hSw
          try dsimp only at hSw
          go_simp
          try with_reducible rfl
        try simp only [Act.put, List.setIfInBounds_toArray, List.set_cons_zero, List.set_cons_succ]
        refine wpAnyH_take (i := 2) (oi := ⟨some 16, .slice 22 (.tmp 14) none (some (.tmp 15)) none, _, _, _, none⟩) (v := ?_) rfl (by kernel_rfl) (by kernel_rfl) (by kernel_rfl) (fun _ _ _ h => h) (Or.inl ⟨by rfl, ?_⟩) (by assumption) ?_
        rotate_left
        · intro w hSw
          try dsimp only at hSw
          go_simp
          try with_reducible rfl
        try simp only [Act.put, List.setIfInBounds_toArray, List.set_cons_zero, List.set_cons_succ]
        refine wpAnyH_take (i := 3) (oi := ⟨some 17, .move (.tmp 0), _, _, _, none⟩) (v := ?_) rfl (by kernel_rfl) (by kernel_rfl) (by kernel_rfl) (fun _ _ _ h => h) (Or.inl ⟨by rfl, ?_⟩) (by assumption) ?_
        rotate_left
        · intro w hSw
          try dsimp only at hSw
          go_simp
          try with_reducible rfl
        try simp only [Act.put, List.setIfInBounds_toArray, List.set_cons_zero, List.set_cons_succ]
        refine wpAnyH_take (i := 4) (oi := ⟨some 18, .move (.tmp 4), _, _, _, none⟩) (v := ?_) rfl (by kernel_rfl) (by kernel_rfl) (by kernel_rfl) (fun _ _ _ h => h) (Or.inl ⟨by rfl, ?_⟩) (by assumption) ?_
        rotate_left
        · intro w hSw
          try dsimp only at hSw
          go_simp
          try with_reducible rfl
        try simp only [Act.put, List.setIfInBounds_toArray, List.set_cons_zero, List.set_cons_succ]
        refine wpAnyH_take (i := 5) (oi := ⟨some 19, .indexAddr 22 (.tmp 17) (.tmp 18), _, _, _, none⟩) (v := ?_) rfl (by kernel_rfl) (by kernel_rfl) (by kernel_rfl) (fun _ _ _ h => h) (Or.inl ⟨by rfl, ?_⟩) (by assumption) ?_
        rotate_left
        · intro w hSw
          try dsimp only at hSw
          go_simp
          try with_reducible rfl
        try simp only [Act.put, List.setIfInBounds_toArray, List.set_cons_zero, List.set_cons_succ]
        refine wpAnyH_take (i := 6) (oi := ⟨some 20, .fieldAddr 64 (.tmp 19) 0, _, _, _, none⟩) (v := ?_) rfl (by kernel_rfl) (by kernel_rfl) (by kernel_rfl) (fun _ _ _ h => h) (Or.inl ⟨by rfl, ?_⟩) (by assumption) ?_
        rotate_left
        · intro w hSw
          try dsimp only at hSw
          go_simp
          try with_reducible rfl
        try simp only [Act.put, List.setIfInBounds_toArray, List.set_cons_zero, List.set_cons_succ]
        refine wpAnyH_take (i := 7) (oi := ⟨some 21, .load 9 (.tmp 20), _, _, _, none⟩) (v := ?_) rfl (by kernel_rfl) (by kernel_rfl) (by kernel_rfl) (fun _ _ _ h => h) (Or.inl ⟨by rfl, ?_⟩) (by assumption) ?_
        rotate_left
        · intro w hSw
          try dsimp only at hSw
          go_simp
          try with_reducible rfl
        try simp only [Act.put, List.setIfInBounds_toArray, List.set_cons_zero, List.set_cons_succ]
        refine wpAnyH_ready (rs := [8]) (by kernel_rfl) (by simp) ?_
        refine AllReadyH.cons (o := ⟨some 22, _, _, _, _, none⟩) rfl (fun K hK => ?_) AllReadyH.nil
        go_simp
        (go_at_call 47; refine (HPA.out _ (gdrew1 _)).mono ?_; rintro e wq ⟨vp, rfl, hop, hb⟩)
        have HB2 := Kp.mk ((gdrew1 wr).trans hb)
        have C2 := Kp.mk ((HB2.out.cell (p := ⟨g, o + k * 2, none⟩) hgl2).trans c1)
        obtain ⟨ap, cp, rfl⟩ := own_lenH hop
        clear hop
        clear hb
        try go_wp2_with fail
        refine hK.out _ _ (C2.out) (fun hHeld2 => ?_)
        clear hK K
        try simp only [Act.put, List.setIfInBounds_toArray, List.set_cons_zero, List.set_cons_succ]
        refine wpAnyH_take (i := 9) (oi := ⟨some 23, .call { callee := .builtin .len, args := #[.tmp 22], argTypes := #[61] }, _, _, _, none⟩) (v := ?_) rfl (by kernel_rfl) (by kernel_rfl) (by kernel_rfl) (fun _ _ _ h => h) (Or.inl ⟨by rfl, ?_⟩) (by assumption) ?_
        rotate_left
        · intro w hSw
          try dsimp only at hSw
          go_simp
          try with_reducible rfl
        try simp only [Act.put, List.setIfInBounds_toArray, List.set_cons_zero, List.set_cons_succ]
        refine wpAnyH_take (i := 10) (oi := ⟨some 24, .binOp .gtr 3 (.tmp 23) (.const (.int .i64 0)) 3, _, _, _, none⟩) (v := ?_) rfl (by kernel_rfl) (by kernel_rfl) (by kernel_rfl) (fun _ _ _ h => h) (Or.inl ⟨by rfl, ?_⟩) (by assumption) ?_
        rotate_left
        · intro w hSw
          try dsimp only at hSw
          go_simp
          try with_reducible rfl
        try simp only [Act.put, List.setIfInBounds_toArray, List.set_cons_zero, List.set_cons_succ]
        refine wpAnyH_done (by kernel_rfl) ?_ _
        have HOB := Kp.mk (own_bel HO.out HB2.out)
        replace HB2 := Kp.mk (HB.out.trans (HB2.out.mono HB.out.size))
        have c2 := C2.out
        clear c1
        cases hs : sgB nm
        · skip
          have HO2 := Kp.mk (HKEY.out.trans (by rw [if_neg (by rw [hs]; decide)]))
          rw [hs] at HSG
          clear HKEY hs
          go_wp2_with fail
          refine (HAA.out _ HB2.out).mono ?_
          rintro e w3 ⟨v3, rfl, ho3, hb⟩
          have HB3 := Kp.mk (HB2.out.trans (hb.mono HB2.out.size))
          have HO3 := Kp.mk (own_bel HOB.out hb)
          have HL3 := Kp.mk ho3
          obtain ⟨a3, c3, rfl⟩ := own_lenH ho3
          have c1 := (HB3.out.cell (p := ⟨g, o + k * 2, none⟩) hg).trans CW.out
          clear hb ho3
          go_wp2_with fail
          refine (HSG.out _).mono ?_
          rintro e w4 ⟨rfl, hb⟩
          have HB4 := Kp.mk (HB3.out.trans (hb.mono HB3.out.size))
          have HO4 := Kp.mk (own_bel HO3.out hb)
          have HL4 := Kp.mk (rds_own (own_bel HL3.out hb))
          clear hb c1
          have HJN := Kp.mk (fun w h => rhjoin_any (.slice a3 V.length c3) V w h HVS.out (by have := HVL.out; omega))
          have HJS := Kp.mk (show (hJoin V).size ≤ maxLen from Nat.le_trans (hJoin_size HVS.out) (by unfold maxLen; have := HVL.out; have : V.length * 100002 ≤ 100 * 100002 := Nat.mul_le_mul_right _ (by omega); omega))
          generalize hJoin V = jn at *
          go_wp2_with fail
          refine (HJN.out _ HL4.out).mono ?_
          rintro e w5 ⟨rfl, hb⟩
          have HB5 := Kp.mk (HB4.out.trans (hb.mono HB4.out.size))
          have HO5 := Kp.mk (own_bel HO4.out hb)
          clear hb
          have hnb := heap_alloc_new w5 (.cells #[.string jn] 9)
          have HW5 := Kp.mk (HB5.out.trans (((Below.refl w5.heap.size w5).alloc (Nat.le_refl _) (.cells #[.string jn] 9)).mono HB5.out.size))
          have HJ0 := Kp.mk (show FJ w.heap.size w5.heap.size (w5.alloc (.cells #[.string jn] 9)) acc0 _ (w5.alloc (.cells #[.string jn] 9)) from
            ⟨own_bel HO5.out ((Below.refl w5.heap.size w5).alloc (Nat.le_refl _) (.cells #[.string jn] 9)), Below.refl _ _, rfl, fun e => by have := (HO5.out.lt _ e).2; omega, blk_lt hnb, HW5.out.size⟩)
          have D5 := Kp.mk (show ∀ (j : Nat) (h : j < [jn].length), (w5.alloc (.cells #[.string jn] 9)).cell? ⟨w5.heap.size, j, none⟩ = some (.string [jn][j]) from fun j h => by
            simp at h
            subst h
            exact blk_cell (i := 0) hnb rfl)
          have HMSM := Kp.mk (show ∀ y ∈ [jn], y.size ≤ maxLen from fun y hy => by rw [List.mem_singleton] at hy; rw [hy]; exact HJS.out)
          have HML := Kp.mk (show [jn].length ≤ 100 by simp)
          have HEND1 := Kp.mk (HEND0.out.trans (by rw [HO2.out]))
          clear hnb
          go_upto_region 9 with fail
          have hm1 : [jn].length = 1 := rfl
          have hje : [jn].take 1 = [jn] := rfl
          rw [← hje] at HEND1
          generalize [jn] = M at *
          generalize w5.alloc (.cells #[.string jn] 9) = W5 at *
          generalize w5.heap.size = b5 at *
          have HM := Kp.mk hm1
          have HEND := Kp.mk HEND1.out.symm
          clear hm1 hje
          go_wp2_with fail
          go_loopw [3, 6] (fun ov i wz => ∃ j : Nat, j ≤ 1 ∧ i = .int .i64 j ∧ FJ w.heap.size b5 W5 (acc0 ++ (M.take j).map fun y => (nameB nm, trimB y)) ov wz) (fun _ i _ => 1 - (intOf i).toNat)
          case atStart => exact ⟨0, Nat.zero_le _, rfl, by simpa using HJ0.out⟩
          case round =>
            obtain ⟨j, hj, rfl, hJ⟩ := hrel
            have HJ := Kp.mk hJ
            clear hJ
            by_cases hjm : j < 1
            · have hjl : j < M.length := by have := HM.out; omega
              have x2 := (World.cell?_of_block HJ.out.k).trans (D5.out j hjl)
              have x1 : wr.cell? ⟨g, o + k * 2, none⟩ = some (.string nm) := ((HW5.out.trans HJ.out.bl).cell (p := ⟨g, o + k * 2, none⟩) hg).trans CW.out
              have hgl2 : g < wr.heap.size := Nat.lt_of_lt_of_le hg (HW5.out.trans HJ.out.bl).size
              have hbl2 : b5 < wr.heap.size := HJ.out.lt
              have HYS := Kp.mk (HMSM.out _ (List.getElem_mem hjl))
              have HAL := Kp.mk (show (acc0 ++ (M.take j).map fun y => (nameB nm, trimB y)) ++ [(nameB nm, trimB M[j])] = acc0 ++ (M.take (j + 1)).map fun y => (nameB nm, trimB y) by rw [List.take_succ_eq_append_getElem hjl, List.map_append, List.append_assoc]; rfl)
              have hal : (acc0 ++ (M.take j).map fun y => (nameB nm, trimB y)).length ≤ 20000 := by
                rw [List.length_append, List.length_map, List.length_take]
                have := HM.out
                have := HML.out
                have := HA0.out
                omega
              obtain ⟨ao, co, rfl⟩ := own_lenH HJ.out.o
              have HNG := Kp.mk (show (Value.slice ao (acc0 ++ (M.take j).map fun y => (nameB nm, trimB y)).length co).ownBlock ≠ some g from fun e => by have := (HJ.out.o.lt _ e).1; omega)
              have r1 : (j : Int) < (1 : Int) := by omega
              have r0 : (0 : Int) ≤ (j : Int) := by omega
              generalize M[j] = y at *
              generalize (acc0 ++ (M.take j).map fun y => (nameB nm, trimB y)) = acc at *
              have HTR := Kp.mk (fun w => (ref_trim_any y w HYS.out).mono fun e w' h => (show e = .returned (.string (trimB y)) ∧ Below w.heap.size w w' from ⟨h.1, h.2 ▸ Below.refl _ _⟩))
              have lenC : (acc.length + 1) * 32 ≤ 140737488355328 := by omega
              have lenD : acc.length + 1 ≤ maxLen := by unfold maxLen; omega
              clear hjl
              go_upto_region 12 with fail
              refine wp_region_held_drew (S := fun w' => w'.cell? ⟨g, o + k * 2, none⟩ = some (.string nm) ∧ w'.cell? ⟨b5, j, none⟩ = some (.string y)) (by kernel_rfl) (show wr.drew.cell? ⟨g, o + k * 2, none⟩ = some (.string nm) ∧ wr.drew.cell? ⟨b5, j, none⟩ = some (.string y) from ⟨x1, x2⟩) (fun hHeld => ?_)
              refine wpAnyH_take (i := 0) (oi := ⟨some 48, .move (.tmp 3), _, _, _, none⟩) (v := ?_) rfl (by kernel_rfl) (by kernel_rfl) (by kernel_rfl) (fun _ _ _ h => h) (Or.inl ⟨by rfl, ?_⟩) (by assumption) ?_
              rotate_left
              · intro w hSw
                try dsimp only at hSw
                go_simp
                try with_reducible rfl
              try simp only [Act.put, List.setIfInBounds_toArray, List.set_cons_zero, List.set_cons_succ]
              refine wpAnyH_take (i := 1) (oi := ⟨some 49, .move (.tmp 0), _, _, _, none⟩) (v := ?_) rfl (by kernel_rfl) (by kernel_rfl) (by kernel_rfl) (fun _ _ _ h => h) (Or.inl ⟨by rfl, ?_⟩) (by assumption) ?_
              rotate_left
              · intro w hSw
                try dsimp only at hSw
                go_simp
                try with_reducible rfl
              try simp only [Act.put, List.setIfInBounds_toArray, List.set_cons_zero, List.set_cons_succ]
              refine wpAnyH_take (i := 2) (oi := ⟨some 50, .move (.tmp 4), _, _, _, none⟩) (v := ?_) rfl (by kernel_rfl) (by kernel_rfl) (by kernel_rfl) (fun _ _ _ h => h) (Or.inl ⟨by rfl, ?_⟩) (by assumption) ?_
              rotate_left
              · intro w hSw
                try dsimp only at hSw
                go_simp
                try with_reducible rfl
              try simp only [Act.put, List.setIfInBounds_toArray, List.set_cons_zero, List.set_cons_succ]
              refine wpAnyH_take (i := 3) (oi := ⟨some 51, .indexAddr 22 (.tmp 49) (.tmp 50), _, _, _, none⟩) (v := ?_) rfl (by kernel_rfl) (by kernel_rfl) (by kernel_rfl) (fun _ _ _ h => h) (Or.inl ⟨by rfl, ?_⟩) (by assumption) ?_
              rotate_left
              · intro w hSw
                try dsimp only at hSw
                go_simp
                try with_reducible rfl
              try simp only [Act.put, List.setIfInBounds_toArray, List.set_cons_zero, List.set_cons_succ]
              refine wpAnyH_take (i := 4) (oi := ⟨some 52, .fieldAddr 64 (.tmp 51) 0, _, _, _, none⟩) (v := ?_) rfl (by kernel_rfl) (by kernel_rfl) (by kernel_rfl) (fun _ _ _ h => h) (Or.inl ⟨by rfl, ?_⟩) (by assumption) ?_
              rotate_left
              · intro w hSw
                try dsimp only at hSw
                go_simp
                try with_reducible rfl
              try simp only [Act.put, List.setIfInBounds_toArray, List.set_cons_zero, List.set_cons_succ]
              refine wpAnyH_take (i := 5) (oi := ⟨some 53, .load 9 (.tmp 52), _, _, _, none⟩) (v := ?_) rfl (by kernel_rfl) (by kernel_rfl) (by kernel_rfl) (fun _ _ _ h => h) (Or.inl ⟨by rfl, ?_⟩) (by assumption) ?_
              rotate_left
              · intro w hSw
                try dsimp only at hSw
                go_simp
                try with_reducible rfl
              try simp only [Act.put, List.setIfInBounds_toArray, List.set_cons_zero, List.set_cons_succ]
              refine wpAnyH_take (i := 7) (oi := ⟨some 55, .move (.tmp 5), _, _, _, none⟩) (v := ?_) rfl (by kernel_rfl) (by kernel_rfl) (by kernel_rfl) (fun _ _ _ h => h) (Or.inl ⟨by rfl, ?_⟩) (by assumption) ?_
              rotate_left
              · intro w hSw
                try dsimp only at hSw
                go_simp
                try with_reducible rfl
              try simp only [Act.put, List.setIfInBounds_toArray, List.set_cons_zero, List.set_cons_succ]
              refine wpAnyH_take (i := 8) (oi := ⟨some 56, .move (.tmp 6), _, _, _, none⟩) (v := ?_) rfl (by kernel_rfl) (by kernel_rfl) (by kernel_rfl) (fun _ _ _ h => h) (Or.inl ⟨by rfl, ?_⟩) (by assumption) ?_
              rotate_left
              · intro w hSw
                try dsimp only at hSw
                go_simp
                try with_reducible rfl
              try simp only [Act.put, List.setIfInBounds_toArray, List.set_cons_zero, List.set_cons_succ]
              refine wpAnyH_take (i := 9) (oi := ⟨some 57, .indexAddr 61 (.tmp 55) (.tmp 56), _, _, _, none⟩) (v := ?_) rfl (by kernel_rfl) (by kernel_rfl) (by kernel_rfl) (fun _ _ _ h => h) (Or.inl ⟨by rfl, ?_⟩) (by assumption) ?_
              rotate_left
              · intro w hSw
                try dsimp only at hSw
                go_simp
                try with_reducible rfl
              try simp only [Act.put, List.setIfInBounds_toArray, List.set_cons_zero, List.set_cons_succ]
              refine wpAnyH_take (i := 10) (oi := ⟨some 58, .load 9 (.tmp 57), _, _, _, none⟩) (v := ?_) rfl (by kernel_rfl) (by kernel_rfl) (by kernel_rfl) (fun _ _ _ h => h) (Or.inl ⟨by rfl, ?_⟩) (by assumption) ?_
              rotate_left
              · intro w hSw
                try dsimp only at hSw
                go_simp
                try with_reducible rfl
              try simp only [Act.put, List.setIfInBounds_toArray, List.set_cons_zero, List.set_cons_succ]
              refine wpAnyH_ready (rs := [6]) (by kernel_rfl) (by simp) ?_
              refine AllReadyH.cons (o := ⟨some 54, _, _, _, _, none⟩) rfl (fun K hK => ?_) AllReadyH.nil
              go_simp
              (go_at_call 50; refine (HNA.out _).mono ?_; rintro e wq ⟨rfl, hb⟩)
              have HB5 := Kp.mk ((gdrew1 wr).trans hb)
              have HS5 := Kp.mk (And.intro ((HB5.out.cell (p := ⟨g, o + k * 2, none⟩) hgl2).trans x1) ((HB5.out.cell (p := ⟨b5, j, none⟩) hbl2).trans x2))
              clear hb
              try go_wp2_with fail
              refine hK.out _ _ (HS5.out) (fun hHeld2 => ?_)
              clear hK K
              try simp only [Act.put, List.setIfInBounds_toArray, List.set_cons_zero, List.set_cons_succ]
              refine wpAnyH_ready (rs := [11]) (by kernel_rfl) (by simp) ?_
              refine AllReadyH.cons (o := ⟨some 59, _, _, _, _, none⟩) rfl (fun K hK => ?_) AllReadyH.nil
              go_simp
              (go_at_call 51; refine (HTR.out _).mono ?_; rintro e wq ⟨rfl, hb⟩)
              have HB6 := Kp.mk (HB5.out.trans (hb.mono HB5.out.size))
              have HS6 := Kp.mk (And.intro ((HB6.out.cell (p := ⟨g, o + k * 2, none⟩) hgl2).trans x1) ((HB6.out.cell (p := ⟨b5, j, none⟩) hbl2).trans x2))
              have HJ2 := Kp.mk (HJ.out.below HB6.out)
              have HBZ := Kp.mk (Nat.le_trans HJ2.out.b HJ2.out.bl.size)
              have HS7 := Kp.mk (show (wq.alloc (.cells #[.string (nameB nm), .string (trimB y)] 64)).cell? ⟨g, o + k * 2, none⟩ = some (.string nm) ∧ (wq.alloc (.cells #[.string (nameB nm), .string (trimB y)] 64)).cell? ⟨b5, j, none⟩ = some (.string y) from ⟨(World.cell?_of_block (Below.heap_alloc wq _ _ (Nat.lt_of_lt_of_le hgl2 HB6.out.size))).trans HS6.out.1, (World.cell?_of_block (Below.heap_alloc wq _ _ (Nat.lt_of_lt_of_le hbl2 HB6.out.size))).trans HS6.out.2⟩)
              have hgq := Nat.lt_of_lt_of_le hgl2 HB6.out.size
              have hbq := Nat.lt_of_lt_of_le hbl2 HB6.out.size
              generalize wq = WQ at *
              clear hb
              try go_wp2_with fail
              refine hK.out _ _ (HS6.out) (fun hHeld2 => ?_)
              clear hK K
              try simp only [Act.put, List.setIfInBounds_toArray, List.set_cons_zero, List.set_cons_succ]
              refine wpAnyH_take (i := 12) (oi := ⟨some 60, .build 64 #[(0, .tmp 54), (1, .tmp 59)], _, _, _, none⟩) (v := ?_) rfl (by kernel_rfl) (by kernel_rfl) (by kernel_rfl) (fun _ _ _ h => h) (Or.inl ⟨by rfl, ?_⟩) (by assumption) ?_
              rotate_left
              · intro w hSw
                try dsimp only at hSw
                go_simp
                try with_reducible rfl
              try simp only [Act.put, List.setIfInBounds_toArray, List.set_cons_zero, List.set_cons_succ]
              refine wpAnyH_ready (rs := [13]) (by kernel_rfl) (by simp) ?_
              refine AllReadyH.cons (o := ⟨some 61, _, _, _, _, none⟩) rfl (fun K hK => ?_) AllReadyH.nil
              go_simp
              refine hK.out _ _ (HS7.out) (fun hHeld2 => ?_)
              clear hK K
              try simp only [Act.put, List.setIfInBounds_toArray, List.set_cons_zero, List.set_cons_succ]
              refine wpAnyH_ready (rs := [14]) (by kernel_rfl) (by simp) ?_
              refine AllReadyH.cons (o := ⟨some 62, _, _, _, _, none⟩) rfl (fun K hK => ?_) AllReadyH.nil
              apply oq_app_any (wr := WQ) (e := 64) (cs := #[.string (nameB nm), .string (trimB y)]) (B := w.heap.size) (v := .slice ao acc.length co) (hown := HJ2.out.o) (H := WQ.heap.size) (hH := rfl) (hlen := lenC) (hm := lenD) (hB := HBZ.out) (hi := Try.infoFH) (ht := Try.underlying22)
              all_goals (try (first | rfl | decide | (intro u hu; simp at hu; rcases hu with rfl | rfl <;> rfl)))
              intro g' cap' w6 h1 h2 h3
              have HJ3 := Kp.mk (HJ2.out.next (f := (nameB nm, trimB y)) h1 h2 h3)
              have HS8 := Kp.mk (show w6.cell? ⟨g, o + k * 2, none⟩ = some (.string nm) ∧ w6.cell? ⟨b5, j, none⟩ = some (.string y) from
                ⟨(World.cell?_of_block ((h2.block g (by simp; omega) (fun e => HNG.out e.symm)).trans (Below.heap_alloc WQ _ g hgq))).trans HS6.out.1,
                 (World.cell?_of_block ((h2.block b5 (by simp; omega) (fun e => HJ.out.n e.symm)).trans (Below.heap_alloc WQ _ b5 hbq))).trans HS6.out.2⟩)
              clear h1 h2 h3
              refine hK.out _ _ (HS8.out) (fun hHeld2 => ?_)
              clear hK K
              try simp only [Act.put, List.setIfInBounds_toArray, List.set_cons_zero, List.set_cons_succ]
              refine wpAnyH_take (i := 15) (oi := ⟨some 3, .assign (.tmp 62), _, _, _, none⟩) (v := ?_) rfl (by kernel_rfl) (by kernel_rfl) (by kernel_rfl) (fun _ _ _ h => h) (Or.inl ⟨by rfl, ?_⟩) (by assumption) ?_
              rotate_left
              · intro w hSw
                try dsimp only at hSw
                go_simp
                try with_reducible rfl
              try simp only [Act.put, List.setIfInBounds_toArray, List.set_cons_zero, List.set_cons_succ]
              refine wpAnyH_done (by kernel_rfl) ?_ _
              go_wp2_with fail
              go_roundw
              case rel => exact ⟨j + 1, by omega, by go_num, (by have h9 := HJ3.out; rw [HAL.out] at h9; exact h9)⟩
              case measure => simp [intOf] <;> omega
            · have hjm2 : j = 1 := by omega
              subst hjm2
              have HFJ := Kp.mk HJ.out
              clear HJ
              go_wp2_with fail
              go_roundw
              case rel => exact ⟨k + 1, by omega, by go_num, (by have h9 := HFJ.out.o; rw [HEND.out] at h9; exact h9), HW5.out.trans (HFJ.out.bl)⟩
              case measure => simp [intOf] <;> omega
        · skip
          have HO2 := Kp.mk (HKEY.out.trans (by rw [if_pos hs]))
          rw [hs] at HSG
          clear HKEY hs
          go_wp2_with fail
          refine (HAA.out _ HB2.out).mono ?_
          rintro e w3 ⟨v3, rfl, ho3, hb⟩
          have HB3 := Kp.mk (HB2.out.trans (hb.mono HB2.out.size))
          have HO3 := Kp.mk (own_bel HOB.out hb)
          have HL3 := Kp.mk ho3
          obtain ⟨a3, c3, rfl⟩ := own_lenH ho3
          have c1 := (HB3.out.cell (p := ⟨g, o + k * 2, none⟩) hg).trans CW.out
          have hw23 := hb.size
          clear hb ho3
          go_wp2_with fail
          refine (HSG.out _).mono ?_
          rintro e w4 ⟨rfl, hb⟩
          have HW5 := Kp.mk (HB3.out.trans (hb.mono HB3.out.size))
          have HO4 := Kp.mk (own_bel HO3.out hb)
          have HL4 := Kp.mk (own_bel HL3.out hb)
          obtain ⟨b5, o5, rfl, hb5, d5⟩ := rds_cells (rds_own HL4.out) HV0.out
          have hlo := (HL3.out.lt b5 rfl)
          have HJ0 := Kp.mk (show FJ w.heap.size b5 w4 acc0 _ w4 from ⟨HO4.out, Below.refl _ _, rfl, fun e => by have := (HOB.out.lt _ e).2; omega, hb5, HW5.out.size⟩)
          have D5 := Kp.mk d5
          have HMSM := Kp.mk (show ∀ y ∈ V, y.size ≤ maxLen from fun y hy => Nat.le_trans (HVS.out y hy) (by unfold maxLen; omega))
          have HML := Kp.mk (show V.length ≤ 100 from HVL.out)
          have hvl : V.length ≤ 100 := HVL.out
          have HM := Kp.mk (show V.length = V.length from rfl)
          have HEND := Kp.mk (show acc0 ++ ((V.take V.length).map fun y => (nameB nm, trimB y)) = (fstK (l.take (k + 1))).flatMap (hKey l) from (by rw [List.take_length, HEND0.out, HO2.out]))
          clear hb d5 hlo hw23 c1
          go_wp2_with fail
          go_loopw [3, 6] (fun ov i wz => ∃ j : Nat, j ≤ V.length ∧ i = .int .i64 j ∧ FJ w.heap.size b5 w4 (acc0 ++ (V.take j).map fun y => (nameB nm, trimB y)) ov wz) (fun _ i _ => V.length - (intOf i).toNat)
          case atStart => exact ⟨0, Nat.zero_le _, rfl, by simpa using HJ0.out⟩
          case round =>
            obtain ⟨j, hj, rfl, hJ⟩ := hrel
            have HJ := Kp.mk hJ
            clear hJ
            by_cases hjm : j < V.length
            · have hjl : j < V.length := by have := HM.out; omega
              have x2 := (World.cell?_of_block HJ.out.k).trans (D5.out j hjl)
              have x1 : wr.cell? ⟨g, o + k * 2, none⟩ = some (.string nm) := ((HW5.out.trans HJ.out.bl).cell (p := ⟨g, o + k * 2, none⟩) hg).trans CW.out
              have hgl2 : g < wr.heap.size := Nat.lt_of_lt_of_le hg (HW5.out.trans HJ.out.bl).size
              have hbl2 : b5 < wr.heap.size := HJ.out.lt
              have HYS := Kp.mk (HMSM.out _ (List.getElem_mem hjl))
              have HAL := Kp.mk (show (acc0 ++ (V.take j).map fun y => (nameB nm, trimB y)) ++ [(nameB nm, trimB V[j])] = acc0 ++ (V.take (j + 1)).map fun y => (nameB nm, trimB y) by rw [List.take_succ_eq_append_getElem hjl, List.map_append, List.append_assoc]; rfl)
              have hal : (acc0 ++ (V.take j).map fun y => (nameB nm, trimB y)).length ≤ 20000 := by
                rw [List.length_append, List.length_map, List.length_take]
                have := HM.out
                have := HML.out
                have := HA0.out
                omega
              obtain ⟨ao, co, rfl⟩ := own_lenH HJ.out.o
              have HNG := Kp.mk (show (Value.slice ao (acc0 ++ (V.take j).map fun y => (nameB nm, trimB y)).length co).ownBlock ≠ some g from fun e => by have := (HJ.out.o.lt _ e).1; omega)
              have r1 : (j : Int) < (V.length : Int) := by omega
              have r0 : (0 : Int) ≤ (j : Int) := by omega
              generalize V[j] = y at *
              generalize (acc0 ++ (V.take j).map fun y => (nameB nm, trimB y)) = acc at *
              have HTR := Kp.mk (fun w => (ref_trim_any y w HYS.out).mono fun e w' h => (show e = .returned (.string (trimB y)) ∧ Below w.heap.size w w' from ⟨h.1, h.2 ▸ Below.refl _ _⟩))
              have lenC : (acc.length + 1) * 32 ≤ 140737488355328 := by omega
              have lenD : acc.length + 1 ≤ maxLen := by unfold maxLen; omega
              clear hjl
              go_upto_region 12 with fail
              refine wp_region_held_drew (S := fun w' => w'.cell? ⟨g, o + k * 2, none⟩ = some (.string nm) ∧ w'.cell? ⟨b5, o5 + j, none⟩ = some (.string y)) (by kernel_rfl) (show wr.drew.cell? ⟨g, o + k * 2, none⟩ = some (.string nm) ∧ wr.drew.cell? ⟨b5, o5 + j, none⟩ = some (.string y) from ⟨x1, x2⟩) (fun hHeld => ?_)
              refine wpAnyH_take (i := 0) (oi := ⟨some 48, .move (.tmp 3), _, _, _, none⟩) (v := ?_) rfl (by kernel_rfl) (by kernel_rfl) (by kernel_rfl) (fun _ _ _ h => h) (Or.inl ⟨by rfl, ?_⟩) (by assumption) ?_
              rotate_left
              · intro w hSw
                try dsimp only at hSw
                go_simp
                try with_reducible rfl
              try simp only [Act.put, List.setIfInBounds_toArray, List.set_cons_zero, List.set_cons_succ]
              refine wpAnyH_take (i := 1) (oi := ⟨some 49, .move (.tmp 0), _, _, _, none⟩) (v := ?_) rfl (by kernel_rfl) (by kernel_rfl) (by kernel_rfl) (fun _ _ _ h => h) (Or.inl ⟨by rfl, ?_⟩) (by assumption) ?_
              rotate_left
              · intro w hSw
                try dsimp only at hSw
                go_simp
                try with_reducible rfl
              try simp only [Act.put, List.setIfInBounds_toArray, List.set_cons_zero, List.set_cons_succ]
              refine wpAnyH_take (i := 2) (oi := ⟨some 50, .move (.tmp 4), _, _, _, none⟩) (v := ?_) rfl (by kernel_rfl) (by kernel_rfl) (by kernel_rfl) (fun _ _ _ h => h) (Or.inl ⟨by rfl, ?_⟩) (by assumption) ?_
              rotate_left
              · intro w hSw
                try dsimp only at hSw
                go_simp
                try with_reducible rfl
              try simp only [Act.put, List.setIfInBounds_toArray, List.set_cons_zero, List.set_cons_succ]
              refine wpAnyH_take (i := 3) (oi := ⟨some 51, .indexAddr 22 (.tmp 49) (.tmp 50), _, _, _, none⟩) (v := ?_) rfl (by kernel_rfl) (by kernel_rfl) (by kernel_rfl) (fun _ _ _ h => h) (Or.inl ⟨by rfl, ?_⟩) (by assumption) ?_
              rotate_left
              · intro w hSw
                try dsimp only at hSw
                go_simp
                try with_reducible rfl
              try simp only [Act.put, List.setIfInBounds_toArray, List.set_cons_zero, List.set_cons_succ]
              refine wpAnyH_take (i := 4) (oi := ⟨some 52, .fieldAddr 64 (.tmp 51) 0, _, _, _, none⟩) (v := ?_) rfl (by kernel_rfl) (by kernel_rfl) (by kernel_rfl) (fun _ _ _ h => h) (Or.inl ⟨by rfl, ?_⟩) (by assumption) ?_
              rotate_left
              · intro w hSw
                try dsimp only at hSw
                go_simp
                try with_reducible rfl
              try simp only [Act.put, List.setIfInBounds_toArray, List.set_cons_zero, List.set_cons_succ]
              refine wpAnyH_take (i := 5) (oi := ⟨some 53, .load 9 (.tmp 52), _, _, _, none⟩) (v := ?_) rfl (by kernel_rfl) (by kernel_rfl) (by kernel_rfl) (fun _ _ _ h => h) (Or.inl ⟨by rfl, ?_⟩) (by assumption) ?_
              rotate_left
              · intro w hSw
                try dsimp only at hSw
                go_simp
                try with_reducible rfl
              try simp only [Act.put, List.setIfInBounds_toArray, List.set_cons_zero, List.set_cons_succ]
              refine wpAnyH_take (i := 7) (oi := ⟨some 55, .move (.tmp 5), _, _, _, none⟩) (v := ?_) rfl (by kernel_rfl) (by kernel_rfl) (by kernel_rfl) (fun _ _ _ h => h) (Or.inl ⟨by rfl, ?_⟩) (by assumption) ?_
              rotate_left
              · intro w hSw
                try dsimp only at hSw
                go_simp
                try with_reducible rfl
              try simp only [Act.put, List.setIfInBounds_toArray, List.set_cons_zero, List.set_cons_succ]
              refine wpAnyH_take (i := 8) (oi := ⟨some 56, .move (.tmp 6), _, _, _, none⟩) (v := ?_) rfl (by kernel_rfl) (by kernel_rfl) (by kernel_rfl) (fun _ _ _ h => h) (Or.inl ⟨by rfl, ?_⟩) (by assumption) ?_
              rotate_left
              · intro w hSw
                try dsimp only at hSw
                go_simp
                try with_reducible rfl
              try simp only [Act.put, List.setIfInBounds_toArray, List.set_cons_zero, List.set_cons_succ]
              refine wpAnyH_take (i := 9) (oi := ⟨some 57, .indexAddr 61 (.tmp 55) (.tmp 56), _, _, _, none⟩) (v := ?_) rfl (by kernel_rfl) (by kernel_rfl) (by kernel_rfl) (fun _ _ _ h => h) (Or.inl ⟨by rfl, ?_⟩) (by assumption) ?_
              rotate_left
              · intro w hSw
                try dsimp only at hSw
                go_simp
                try with_reducible rfl
              try simp only [Act.put, List.setIfInBounds_toArray, List.set_cons_zero, List.set_cons_succ]
              refine wpAnyH_take (i := 10) (oi := ⟨some 58, .load 9 (.tmp 57), _, _, _, none⟩) (v := ?_) rfl (by kernel_rfl) (by kernel_rfl) (by kernel_rfl) (fun _ _ _ h => h) (Or.inl ⟨by rfl, ?_⟩) (by assumption) ?_
              rotate_left
              · intro w hSw
                try dsimp only at hSw
                go_simp
                try with_reducible rfl
              try simp only [Act.put, List.setIfInBounds_toArray, List.set_cons_zero, List.set_cons_succ]
              refine wpAnyH_ready (rs := [6]) (by kernel_rfl) (by simp) ?_
              refine AllReadyH.cons (o := ⟨some 54, _, _, _, _, none⟩) rfl (fun K hK => ?_) AllReadyH.nil
              go_simp
              (go_at_call 50; refine (HNA.out _).mono ?_; rintro e wq ⟨rfl, hb⟩)
              have HB5 := Kp.mk ((gdrew1 wr).trans hb)
              have HS5 := Kp.mk (And.intro ((HB5.out.cell (p := ⟨g, o + k * 2, none⟩) hgl2).trans x1) ((HB5.out.cell (p := ⟨b5, o5 + j, none⟩) hbl2).trans x2))
              clear hb
              try go_wp2_with fail
              refine hK.out _ _ (HS5.out) (fun hHeld2 => ?_)
              clear hK K
              try simp only [Act.put, List.setIfInBounds_toArray, List.set_cons_zero, List.set_cons_succ]
              refine wpAnyH_ready (rs := [11]) (by kernel_rfl) (by simp) ?_
              refine AllReadyH.cons (o := ⟨some 59, _, _, _, _, none⟩) rfl (fun K hK => ?_) AllReadyH.nil
              go_simp
              (go_at_call 51; refine (HTR.out _).mono ?_; rintro e wq ⟨rfl, hb⟩)
              have HB6 := Kp.mk (HB5.out.trans (hb.mono HB5.out.size))
              have HS6 := Kp.mk (And.intro ((HB6.out.cell (p := ⟨g, o + k * 2, none⟩) hgl2).trans x1) ((HB6.out.cell (p := ⟨b5, o5 + j, none⟩) hbl2).trans x2))
              have HJ2 := Kp.mk (HJ.out.below HB6.out)
              have HBZ := Kp.mk (Nat.le_trans HJ2.out.b HJ2.out.bl.size)
              have HS7 := Kp.mk (show (wq.alloc (.cells #[.string (nameB nm), .string (trimB y)] 64)).cell? ⟨g, o + k * 2, none⟩ = some (.string nm) ∧ (wq.alloc (.cells #[.string (nameB nm), .string (trimB y)] 64)).cell? ⟨b5, o5 + j, none⟩ = some (.string y) from ⟨(World.cell?_of_block (Below.heap_alloc wq _ _ (Nat.lt_of_lt_of_le hgl2 HB6.out.size))).trans HS6.out.1, (World.cell?_of_block (Below.heap_alloc wq _ _ (Nat.lt_of_lt_of_le hbl2 HB6.out.size))).trans HS6.out.2⟩)
              have hgq := Nat.lt_of_lt_of_le hgl2 HB6.out.size
              have hbq := Nat.lt_of_lt_of_le hbl2 HB6.out.size
              generalize wq = WQ at *
              clear hb
              try go_wp2_with fail
              refine hK.out _ _ (HS6.out) (fun hHeld2 => ?_)
              clear hK K
              try simp only [Act.put, List.setIfInBounds_toArray, List.set_cons_zero, List.set_cons_succ]
              refine wpAnyH_take (i := 12) (oi := ⟨some 60, .build 64 #[(0, .tmp 54), (1, .tmp 59)], _, _, _, none⟩) (v := ?_) rfl (by kernel_rfl) (by kernel_rfl) (by kernel_rfl) (fun _ _ _ h => h) (Or.inl ⟨by rfl, ?_⟩) (by assumption) ?_
              rotate_left
              · intro w hSw
                try dsimp only at hSw
                go_simp
                try with_reducible rfl
              try simp only [Act.put, List.setIfInBounds_toArray, List.set_cons_zero, List.set_cons_succ]
              refine wpAnyH_ready (rs := [13]) (by kernel_rfl) (by simp) ?_
              refine AllReadyH.cons (o := ⟨some 61, _, _, _, _, none⟩) rfl (fun K hK => ?_) AllReadyH.nil
              go_simp
              refine hK.out _ _ (HS7.out) (fun hHeld2 => ?_)
              clear hK K
              try simp only [Act.put, List.setIfInBounds_toArray, List.set_cons_zero, List.set_cons_succ]
              refine wpAnyH_ready (rs := [14]) (by kernel_rfl) (by simp) ?_
              refine AllReadyH.cons (o := ⟨some 62, _, _, _, _, none⟩) rfl (fun K hK => ?_) AllReadyH.nil
              apply oq_app_any (wr := WQ) (e := 64) (cs := #[.string (nameB nm), .string (trimB y)]) (B := w.heap.size) (v := .slice ao acc.length co) (hown := HJ2.out.o) (H := WQ.heap.size) (hH := rfl) (hlen := lenC) (hm := lenD) (hB := HBZ.out) (hi := Try.infoFH) (ht := Try.underlying22)
              all_goals (try (first | rfl | decide | (intro u hu; simp at hu; rcases hu with rfl | rfl <;> rfl)))
              intro g' cap' w6 h1 h2 h3
              have HJ3 := Kp.mk (HJ2.out.next (f := (nameB nm, trimB y)) h1 h2 h3)
              have HS8 := Kp.mk (show w6.cell? ⟨g, o + k * 2, none⟩ = some (.string nm) ∧ w6.cell? ⟨b5, o5 + j, none⟩ = some (.string y) from
                ⟨(World.cell?_of_block ((h2.block g (by simp; omega) (fun e => HNG.out e.symm)).trans (Below.heap_alloc WQ _ g hgq))).trans HS6.out.1,
                 (World.cell?_of_block ((h2.block b5 (by simp; omega) (fun e => HJ.out.n e.symm)).trans (Below.heap_alloc WQ _ b5 hbq))).trans HS6.out.2⟩)
              clear h1 h2 h3
              refine hK.out _ _ (HS8.out) (fun hHeld2 => ?_)
              clear hK K
              try simp only [Act.put, List.setIfInBounds_toArray, List.set_cons_zero, List.set_cons_succ]
              refine wpAnyH_take (i := 15) (oi := ⟨some 3, .assign (.tmp 62), _, _, _, none⟩) (v := ?_) rfl (by kernel_rfl) (by kernel_rfl) (by kernel_rfl) (fun _ _ _ h => h) (Or.inl ⟨by rfl, ?_⟩) (by assumption) ?_
              rotate_left
              · intro w hSw
                try dsimp only at hSw
                go_simp
                try with_reducible rfl
              try simp only [Act.put, List.setIfInBounds_toArray, List.set_cons_zero, List.set_cons_succ]
              refine wpAnyH_done (by kernel_rfl) ?_ _
              go_wp2_with fail
              go_roundw
              case rel => exact ⟨j + 1, by omega, by go_num, (by have h9 := HJ3.out; rw [HAL.out] at h9; exact h9)⟩
              case measure => simp [intOf] <;> omega
            · have hjm2 : j = V.length := by omega
              subst hjm2
              have HFJ := Kp.mk HJ.out
              clear HJ
              go_wp2_with fail
              go_roundw
              case rel => exact ⟨k + 1, by omega, by go_num, (by have h9 := HFJ.out.o; rw [HEND.out] at h9; exact h9), HW5.out.trans (HFJ.out.bl)⟩
              case measure => simp [intOf] <;> omega
    · have hkn : k = n := by omega
      subst hkn
      have HTK := Kp.mk (show l.take k = l from List.take_of_length_le (by have := HN.out; omega))
      go_wp2_with fail
      go_ret
      refine ⟨_, rfl, ?_, HB.out⟩
      have h9 := HO.out
      rw [HTK.out] at h9
      rw [HR.out]
      exact h9
end Go.Proofs.Ytocnecbhpofdgaa
