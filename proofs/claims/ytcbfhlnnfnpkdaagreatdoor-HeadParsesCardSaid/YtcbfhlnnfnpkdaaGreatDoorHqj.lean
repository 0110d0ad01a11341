/- Heads (layer 22): a head's lines, the document's (bin/mkhqj.py). -/
import Derived.Test.YtcbfhlnnfnpkdaaGreatDoorHea
import Derived.Test.YtcbfhlnnfnpkdaaGreatDoorStn
import Derived.Test.YtcbfhlnnfnpkdaaGreatDoorStq
import Derived.Test.YtcbfhlnnfnpkdaaGreatDoorHqk
namespace Go.Proofs.YtcbfhlnnfnpkdaaGreatDoor
open Go.RowKit
set_option linter.unusedVariables false
set_option linter.unusedSimpArgs false

theorem Hx.row {h b : Nat} {c1 c2 : Array Value} {w W : World} (H : Hx h c1 c2 w W) (hb : h + 2 ≤ b) (cs : Array Value) : Hx h c1 c2 w (W.setRow b cs) :=
  ⟨(setRow_otherH cs (by omega)).trans H.b1, (setRow_otherH cs (by omega)).trans H.b2, below_setRow H.bel (by omega) cs⟩
theorem blk_of_cellH {w : World} {p : Addr} {v : Value} (h : w.cell? p = some v) : p.block < w.heap.size := World.block_lt_of_cell? w _ h
set_option maxRecDepth 100000 in
set_option maxHeartbeats 4000000 in
theorem rhparse_any (kind x0 lf x2 x3 fold : Int) (v : Value) (L : List ByteArray) (w : World) (hv : RdS w v L) (hl : L.length ≤ 1000) (hz : ∀ s ∈ L, s.size ≤ 900) (hlf : -9223372036854775808 ≤ lf ∧ lf ≤ 9223372036854775807) :
    Calls Tryz.prog 10 #[.int .i64 kind, .agg #[.int .i64 x0, .int .i64 lf, .int .i64 x2, .int .i64 x3, .int .i64 fold], v] w (RetHd (prH kind lf fold L) w) := by
  have HV := Kp.mk hv
  have HZ := Kp.mk hz
  obtain ⟨av, cv, rfl, hcv, hcm, -⟩ := hv
  have HB := Kp.mk (Hx.new w #[.int .i64 x0, .int .i64 lf, .int .i64 x2, .int .i64 x3, .int .i64 fold] #[.string ⟨#[]⟩, .string ⟨#[]⟩, .int .i64 0, .int .i64 0, .string ⟨#[]⟩, .slice none 0 0])
  unfold RetHd hdV
  clear hz
  by_cases hk : kind ≠ 1 ∧ kind ≠ 2
  · have HS := Kp.mk (prH_kind (lf := lf) (fold := fold) (L := L) hk)
    have hk1 : (kind != 1) = true := by rw [bne_iff_ne]; exact hk.1
    have hk2 : (kind != 2) = true := by rw [bne_iff_ne]; exact hk.2
    generalize prH kind lf fold L = S at *
    go_enter Tryz.func10, Tryz.ntmps10
    go_upto_region 2 with fail
    repeat ((fail_if_success (with_reducible show Oper.wp _ (Oper.mk _ (.store _ _ _) _ _ _ _) _ _ _ _)); go_step)
    refine wp_store_row _ _ _ (by rfl) _ #[.string ⟨#[]⟩, .string ⟨#[]⟩, .int .i64 0, .int .i64 0, .string ⟨#[]⟩, .slice none 0 0] (by rfl) (by rfl) _ _ HB.out.b2 (by kernel_rfl) rfl (by decide +kernel) ?_
    go_wp2_with fail
    refine bodyPost_ret (v := .tuple #[.agg #[.string ⟨#[]⟩, .string ⟨#[]⟩, .int .i64 0, .int .i64 0, .string ⟨#[]⟩, .slice none 0 0], .int .i64 1]) ?_ rfl ⟨.slice none 0 0, by rw [HS.out] <;> rfl, by rw [HS.out]; exact World.ownsRow_nil _ _ _ _, below_setRow HB.out.bel (by omega) _⟩
    exact res_hd (p := 6) (q := 7) (ty := 29) (by kernel_rfl) _ _ (w.heap.size + 1) _ _ _ _ _ (by rfl) (by rfl) (setRow_heap _ _ _ _ _ _ HB.out.b2) Tryz.underlying29 rfl (by kernel_rfl)
  · have hk0 : kind = 1 ∨ kind = 2 := by omega
    rcases L with _ | ⟨s, L⟩
    · have HS := Kp.mk (prH_none (lf := lf) (fold := fold) hk0)
      generalize prH kind lf fold [] = S at *
      rcases hk0 with rfl | rfl
      all_goals
        go_enter Tryz.func10, Tryz.ntmps10
        go_upto_region 4 with fail
        repeat ((fail_if_success (with_reducible show Oper.wp _ (Oper.mk _ (.store _ _ _) _ _ _ _) _ _ _ _)); go_step)
        refine wp_store_row _ _ _ (by rfl) _ #[.string ⟨#[]⟩, .string ⟨#[]⟩, .int .i64 0, .int .i64 0, .string ⟨#[]⟩, .slice none 0 0] (by rfl) (by rfl) _ _ HB.out.b2 (by kernel_rfl) rfl (by decide +kernel) ?_
        go_wp2_with fail
        refine bodyPost_ret (v := .tuple #[.agg #[.string ⟨#[]⟩, .string ⟨#[]⟩, .int .i64 0, .int .i64 0, .string ⟨#[]⟩, .slice none 0 0], .int .i64 2]) ?_ rfl ⟨.slice none 0 0, by rw [HS.out] <;> rfl, by rw [HS.out]; exact World.ownsRow_nil _ _ _ _, below_setRow HB.out.bel (by omega) _⟩
        exact res_hd (p := 6) (q := 7) (ty := 29) (by kernel_rfl) _ _ (w.heap.size + 1) _ _ _ _ _ (by rfl) (by rfl) (setRow_heap _ _ _ _ _ _ HB.out.b2) Tryz.underlying29 rfl (by kernel_rfl)
    · have HRQ := Kp.mk (fun w => rrequest_any s w (by have := HZ.out s (by simp); omega))
      have HST := Kp.mk (fun w => rstatus_any s w (by have := HZ.out s (by simp); omega))
      have HS1 := Kp.mk (fun q => prH_first (lf := lf) (fold := fold) (L := L) hk0 (s := s) q)
      have HS2 := Kp.mk (fun q r => prH_many (lf := lf) (fold := fold) (L := L) hk0 (s := s) q r)
      have HS3 := Kp.mk (fun q r t => prH_fields (lf := lf) (fold := fold) (L := L) hk0 (s := s) q r t)
      have HS4 := Kp.mk (fun q r t => prH_good (lf := lf) (fold := fold) (L := L) hk0 (s := s) q r t)
      obtain ⟨g, o, rfl, hgl, dd⟩ := rds_cells HV.out (by simp)
      have c0 := dd 0 (by simp)
      rw [Nat.add_zero, List.getElem_cons_zero] at c0
      have c0' := (HB.out.bel.cell (p := ⟨g, o, none⟩) hgl).trans c0
      have hsz := HZ.out s (by simp)
      obtain ⟨tl1, tl2⟩ := rds_tail HV.out
      have TL1 := Kp.mk tl1
      have TL2 := Kp.mk tl2
      have HZ2 := Kp.mk (fun x (hx : x ∈ L) => HZ.out x (by simp [hx]))
      have hll : (s :: L).length = L.length + 1 := rfl
      rw [hll] at hcv hl ⊢
      have hlen : ((L.length + 1 : Nat) : Int) - 1 = (L.length : Int) := by omega
      have hlen0 : ¬ ((L.length + 1 : Nat) : Int) = 0 := by omega
      have hlen1 : (1 : Int) ≤ ((L.length + 1 : Nat) : Int) := by omega
      have pw : IntKind.i64.wrap (L.length : Int) = (L.length : Int) := wrap_small _ (by omega) (by omega)
      generalize prH kind lf fold (s :: L) = S at *
      clear tl1 tl2 dd c0 hk HV
      have q0 : (0 : Int) < ((L.length + 1 : Nat) : Int) := by omega
      have HK := Kp.mk hk0
      obtain ⟨fe, hfe⟩ : ∃ fe, flE kind s = fe := ⟨_, rfl⟩
      obtain ⟨FH, hFH⟩ : ∃ FH, flH kind s = FH := ⟨_, rfl⟩
      rw [hfe] at HS1 HS2 HS3 HS4
      rw [hFH] at HS4
      obtain ⟨m9, t9, mi9, st9, r9, fx⟩ := FH
      have HFE := Kp.mk hfe
      have HFH := Kp.mk hFH
      clear hfe hFH
      rcases HK.out with rfl | rfl
      · have hf := HFH.out
        have hfe := HFE.out
        unfold flH at hf
        unfold flE at hfe
        rw [if_neg (by decide)] at hf hfe
        cases hf
        go_enter Tryz.func10, Tryz.ntmps10
        go_wp2_with fail
        refine (HRQ.out _).mono ?_
        rintro e w9 ⟨rfl, hb9⟩
        rw [hfe]
        clear hfe HFE HFH HK HST HRQ
        have N8 := Kp.mk (heap_alloc_new w9 (.cells #[.string (reqM s), .string (reqT s), .int .i64 (reqN s), .int .i64 0, .string ⟨#[]⟩, .slice none 0 0] 29))
        have hb8 : w.heap.size + 2 ≤ w9.heap.size := by have := blk_lt (HB.out.call hb9).b2; omega
        replace HB := Kp.mk ((HB.out.call hb9).alloc (.cells #[.string (reqM s), .string (reqT s), .int .i64 (reqN s), .int .i64 0, .string ⟨#[]⟩, .slice none 0 0] 29))
        clear hb9 c0'
        have l1 := blk_cell (i := 1) HB.out.b1 rfl
        have l4 := blk_cell (i := 4) HB.out.b1 rfl
        by_cases he : fe = 0
        · subst he
          by_cases hm : lf < (L.length : Int)
          · have HS := Kp.mk (HS2.out rfl hm)
            go_upto_region 11 with fail
            repeat ((fail_if_success (with_reducible show Oper.wp _ (Oper.mk _ (.store _ _ _) _ _ _ _) _ _ _ _)); go_step)
            refine wp_store_row _ _ _ (by rfl) _ #[.string ⟨#[]⟩, .string ⟨#[]⟩, .int .i64 0, .int .i64 0, .string ⟨#[]⟩, .slice none 0 0] (by rfl) (by rfl) _ _ HB.out.b2 (by kernel_rfl) rfl (by decide +kernel) ?_
            go_wp2_with fail
            refine bodyPost_ret (v := .tuple #[.agg #[.string ⟨#[]⟩, .string ⟨#[]⟩, .int .i64 0, .int .i64 0, .string ⟨#[]⟩, .slice none 0 0], .int .i64 4]) ?_ rfl ⟨.slice none 0 0, by rw [HS.out] <;> rfl, by rw [HS.out]; exact World.ownsRow_nil _ _ _ _, below_setRow HB.out.bel (by omega) _⟩
            exact res_hd (p := 6) (q := 7) (ty := 29) (by kernel_rfl) _ _ (w.heap.size + 1) _ _ _ _ _ (by rfl) (by rfl) (setRow_heap _ _ _ _ _ _ HB.out.b2) Tryz.underlying29 rfl (by kernel_rfl)
          · have HA := Kp.mk (fun u w hu => rfall_any fold u L w hu (by omega) HZ2.out)
            unfold RetUA at HA
            replace HS3 := Kp.mk (fun q => HS3.out rfl (by omega) q)
            replace HS4 := Kp.mk (fun q => HS4.out rfl (by omega) q)
            generalize afL fold L = A at *
            generalize afE fold L = ae at *
            rcases Nat.lt_or_ge 1 cv with hc1 | hc1
            · have hc2 : (1 : Int) < (cv : Int) := by omega
              have hc3 : (1 : Int) ≤ (cv : Int) := by omega
              have hc4 : ¬ (cv : Int) = 1 := by omega
              have hc5 : ¬ cv = 1 := by omega
              go_upto_region 12 with fail
              go_cut [10, 11] (fun s10 s11 wx => ∃ (a11 : Option Addr) (c11 : Nat), s10 = .slice a11 A.length c11 ∧ s11 = .int .i64 ae ∧ Hx w.heap.size #[.int .i64 x0, .int .i64 lf, .int .i64 x2, .int .i64 x3, .int .i64 fold] #[.string ⟨#[]⟩, .string ⟨#[]⟩, .int .i64 0, .int .i64 0, .string ⟨#[]⟩, .slice none 0 0] w wx ∧ wx.heap[w9.heap.size]? = some (.cells #[.string (reqM s), .string (reqT s), .int .i64 (reqN s), .int .i64 0, .string ⟨#[]⟩, .slice none 0 0] 29 (0, 0)) ∧ wx.ownsRow (w9.heap.size + 1) 67 2 (.slice a11 A.length c11) A.length (fvH A))
              case first =>
                refine wp_region_held_drew (S := fun w' => w'.cell? ⟨w.heap.size, 4, none⟩ = some (.int .i64 fold)) (by kernel_rfl) (l4) (fun hHeld => ?_)
                refine wpAnyH_take (i := 0) (oi := ⟨some 54, .fieldAddr 23 (.tmp 4) 4, _, _, _, none⟩) (v := ?_) rfl (by kernel_rfl) (by kernel_rfl) (by kernel_rfl) (fun _ _ _ h => h) (Or.inl ⟨by rfl, ?_⟩) (by assumption) ?_
                rotate_left
                · intro w hSw
                  try dsimp only at hSw
                  go_simp
                  try with_reducible rfl
                try simp only [Act.put, List.setIfInBounds_toArray, List.set_cons_zero, List.set_cons_succ]
                refine wpAnyH_take (i := 1) (oi := ⟨some 55, .load 3 (.tmp 54), _, _, _, none⟩) (v := ?_) rfl (by kernel_rfl) (by kernel_rfl) (by kernel_rfl) (fun _ _ _ h => h) (Or.inl ⟨by rfl, ?_⟩) (by assumption) ?_
                rotate_left
                · intro w hSw
                  try dsimp only at hSw
                  go_simp
                  try with_reducible rfl
                try simp only [Act.put, List.setIfInBounds_toArray, List.set_cons_zero, List.set_cons_succ]
                refine wpAnyH_take (i := 2) (oi := ⟨some 56, .move (.tmp 2), _, _, _, none⟩) (v := ?_) rfl (by kernel_rfl) (by kernel_rfl) (by kernel_rfl) (fun _ _ _ h => h) (Or.inl ⟨by rfl, ?_⟩) (by assumption) ?_
                rotate_left
                · intro w hSw
                  try dsimp only at hSw
                  go_simp
                  try with_reducible rfl
                try simp only [Act.put, List.setIfInBounds_toArray, List.set_cons_zero, List.set_cons_succ]
                refine wpAnyH_take (i := 3) (oi := ⟨some 57, .slice 24 (.tmp 56) (some (.const (.int .i64 1))) none none, _, _, _, none⟩) (v := ?_) rfl (by kernel_rfl) (by kernel_rfl) (by kernel_rfl) (fun _ _ _ h => h) (Or.inl ⟨by rfl, ?_⟩) (by assumption) ?_
                rotate_left
                · intro w hSw
                  try dsimp only at hSw
                  go_simp
                  first
                    | done
                    | with_reducible rfl
                    | (rw [if_pos (by omega)])
                try simp only [Act.put, List.setIfInBounds_toArray, List.set_cons_zero, List.set_cons_succ]
                refine wpAnyH_ready (rs := [4]) (by kernel_rfl) (by simp) ?_
                refine AllReadyH.cons (o := ⟨some 58, _, _, _, _, none⟩) rfl (fun K hK => ?_) AllReadyH.nil
                go_simp
                (go_at_call 31; refine (HA.out _ _ (TL1.out.below (HB.out.bel.drew))).mono ?_; rintro e w11 ⟨v11, rfl, ow11, hb11⟩)
                obtain ⟨a11, c11, rfl⟩ := own_lenH ow11
                have OW11 := Kp.mk ow11
                have HB11 := Kp.mk (HB.out.call ((Below.refl _ _).drew.trans hb11))
                have N11 := Kp.mk ((hb11.block w9.heap.size (blk_lt N8.out)).trans N8.out)
                clear hb11 ow11
                try go_wp2_with fail
                refine hK.out _ _ (blk_cell (i := 4) HB11.out.b1 rfl) (fun hHeld2 => ?_)
                clear hK K
                try simp only [Act.put, List.setIfInBounds_toArray, List.set_cons_zero, List.set_cons_succ]
                refine wpAnyH_take (i := 5) (oi := ⟨some 53, .move (.tmp 58), _, _, _, none⟩) (v := ?_) rfl (by kernel_rfl) (by kernel_rfl) (by kernel_rfl) (fun _ _ _ h => h) (Or.inl ⟨by rfl, ?_⟩) (by assumption) ?_
                rotate_left
                · intro w hSw
                  try dsimp only at hSw
                  go_simp
                  try with_reducible rfl
                try simp only [Act.put, List.setIfInBounds_toArray, List.set_cons_zero, List.set_cons_succ]
                refine wpAnyH_take (i := 6) (oi := ⟨some 59, .extract (.tmp 53) 0, _, _, _, none⟩) (v := ?_) rfl (by kernel_rfl) (by kernel_rfl) (by kernel_rfl) (fun _ _ _ h => h) (Or.inl ⟨by rfl, ?_⟩) (by assumption) ?_
                rotate_left
                · intro w hSw
                  try dsimp only at hSw
                  go_simp
                  try with_reducible rfl
                try simp only [Act.put, List.setIfInBounds_toArray, List.set_cons_zero, List.set_cons_succ]
                refine wpAnyH_take (i := 7) (oi := ⟨some 60, .extract (.tmp 53) 1, _, _, _, none⟩) (v := ?_) rfl (by kernel_rfl) (by kernel_rfl) (by kernel_rfl) (fun _ _ _ h => h) (Or.inl ⟨by rfl, ?_⟩) (by assumption) ?_
                rotate_left
                · intro w hSw
                  try dsimp only at hSw
                  go_simp
                  try with_reducible rfl
                try simp only [Act.put, List.setIfInBounds_toArray, List.set_cons_zero, List.set_cons_succ]
                refine wpAnyH_take (i := 8) (oi := ⟨some 10, .assign (.tmp 59), _, _, _, none⟩) (v := ?_) rfl (by kernel_rfl) (by kernel_rfl) (by kernel_rfl) (fun _ _ _ h => h) (Or.inl ⟨by rfl, ?_⟩) (by assumption) ?_
                rotate_left
                · intro w hSw
                  try dsimp only at hSw
                  go_simp
                  try with_reducible rfl
                try simp only [Act.put, List.setIfInBounds_toArray, List.set_cons_zero, List.set_cons_succ]
                refine wpAnyH_take (i := 9) (oi := ⟨some 11, .assign (.tmp 60), _, _, _, none⟩) (v := ?_) rfl (by kernel_rfl) (by kernel_rfl) (by kernel_rfl) (fun _ _ _ h => h) (Or.inl ⟨by rfl, ?_⟩) (by assumption) ?_
                rotate_left
                · intro w hSw
                  try dsimp only at hSw
                  go_simp
                  try with_reducible rfl
                try simp only [Act.put, List.setIfInBounds_toArray, List.set_cons_zero, List.set_cons_succ]
                refine wpAnyH_done (by kernel_rfl) ?_ _
                try go_wp2_with fail
                try go_meet
                exact ⟨a11, c11, rfl, rfl, HB11.out, N11.out, own_lowF OW11.out (blk_lt N8.out)⟩
              case rest =>
                obtain ⟨a11, c11, rfl, rfl, hbx, hn12, how⟩ := hcut
                have HB12 := Kp.mk hbx
                have N12 := Kp.mk hn12
                have OW12 := Kp.mk how
                clear hbx hn12 how HB N8 l1 l4
                by_cases hae : ae = 0
                · subst hae
                  have HS := Kp.mk (HS4.out rfl)
                  have n5 := blk_cell (i := 5) N12.out rfl
                  have f5 := blk_free (i := 5) N12.out
                  have HB13 := Kp.mk (HB12.out.far hb8 5 (.slice a11 A.length c11))
                  have N13 := Kp.mk (show (wc.setCell ⟨w9.heap.size, 5, none⟩ (.slice a11 A.length c11)).heap[w9.heap.size]? = some (.cells #[.string (reqM s), .string (reqT s), .int .i64 (reqN s), .int .i64 0, .string ⟨#[]⟩, .slice a11 A.length c11] 29 (0, 0)) from (blk_set N12.out _).trans rfl)
                  have OW13 := Kp.mk (own_otherH (b := w9.heap.size) (o := 5) (u := .slice a11 A.length c11) OW12.out (by omega))
                  go_upto_region 16 with fail
                  repeat ((fail_if_success (with_reducible show Oper.wp _ (Oper.mk _ (.load _ _) _ _ _ _) _ _ _ _)); go_step)
                  refine wp_load_row _ _ (by rfl) w9.heap.size (by rfl) _ _ _ _ N13.out Tryz.underlying29 rfl (by kernel_rfl) ?_
                  simp only [Act.put]
                  repeat ((fail_if_success (with_reducible show Oper.wp _ (Oper.mk _ (.store _ _ _) _ _ _ _) _ _ _ _)); go_step)
                  refine wp_store_row _ _ _ (by rfl) _ #[.string (reqM s), .string (reqT s), .int .i64 (reqN s), .int .i64 0, .string ⟨#[]⟩, .slice a11 A.length c11] (by rfl) (by rfl) _ _ HB13.out.b2 (by kernel_rfl) rfl (by simp [Value.oneCell']) ?_
                  go_wp2_with fail
                  refine bodyPost_ret (v := .tuple #[.agg #[.string (reqM s), .string (reqT s), .int .i64 (reqN s), .int .i64 0, .string ⟨#[]⟩, .slice a11 A.length c11], .int .i64 0]) ?_ rfl ⟨.slice a11 A.length c11, by rw [HS.out] <;> rfl, by rw [HS.out]; exact own_lowF (B := _) (own_setRowH OW13.out (by omega) _) (by omega), below_setRow HB13.out.bel (by omega) _⟩
                  exact res_hd (p := 6) (q := 7) (ty := 29) (by kernel_rfl) _ _ (w.heap.size + 1) _ _ _ _ _ (by rfl) (by rfl) (setRow_heap _ _ _ _ _ _ HB13.out.b2) Tryz.underlying29 rfl (by kernel_rfl)
                · have HS := Kp.mk (HS3.out hae)
                  have hae2 : (ae != 0) = true := by rw [bne_iff_ne]; exact hae
                  go_upto_region 14 with fail
                  repeat ((fail_if_success (with_reducible show Oper.wp _ (Oper.mk _ (.store _ _ _) _ _ _ _) _ _ _ _)); go_step)
                  refine wp_store_row _ _ _ (by rfl) _ #[.string ⟨#[]⟩, .string ⟨#[]⟩, .int .i64 0, .int .i64 0, .string ⟨#[]⟩, .slice none 0 0] (by rfl) (by rfl) _ _ HB12.out.b2 (by kernel_rfl) rfl (by decide +kernel) ?_
                  go_wp2_with fail
                  refine bodyPost_ret (v := .tuple #[.agg #[.string ⟨#[]⟩, .string ⟨#[]⟩, .int .i64 0, .int .i64 0, .string ⟨#[]⟩, .slice none 0 0], .int .i64 ae]) ?_ rfl ⟨.slice none 0 0, by rw [HS.out] <;> rfl, by rw [HS.out]; exact World.ownsRow_nil _ _ _ _, below_setRow HB12.out.bel (by omega) _⟩
                  exact res_hd (p := 6) (q := 7) (ty := 29) (by kernel_rfl) _ _ (w.heap.size + 1) _ _ _ _ _ (by rfl) (by rfl) (setRow_heap _ _ _ _ _ _ HB12.out.b2) Tryz.underlying29 rfl (by kernel_rfl)
            · obtain rfl : cv = 1 := by omega
              have HL0 := Kp.mk (show L = [] from List.eq_nil_of_length_eq_zero (by omega))
              go_upto_region 12 with fail
              go_cut [10, 11] (fun s10 s11 wx => ∃ (a11 : Option Addr) (c11 : Nat), s10 = .slice a11 A.length c11 ∧ s11 = .int .i64 ae ∧ Hx w.heap.size #[.int .i64 x0, .int .i64 lf, .int .i64 x2, .int .i64 x3, .int .i64 fold] #[.string ⟨#[]⟩, .string ⟨#[]⟩, .int .i64 0, .int .i64 0, .string ⟨#[]⟩, .slice none 0 0] w wx ∧ wx.heap[w9.heap.size]? = some (.cells #[.string (reqM s), .string (reqT s), .int .i64 (reqN s), .int .i64 0, .string ⟨#[]⟩, .slice none 0 0] 29 (0, 0)) ∧ wx.ownsRow (w9.heap.size + 1) 67 2 (.slice a11 A.length c11) A.length (fvH A))
              case first =>
                refine wp_region_held_drew (S := fun w' => w'.cell? ⟨w.heap.size, 4, none⟩ = some (.int .i64 fold)) (by kernel_rfl) (l4) (fun hHeld => ?_)
                refine wpAnyH_take (i := 0) (oi := ⟨some 54, .fieldAddr 23 (.tmp 4) 4, _, _, _, none⟩) (v := ?_) rfl (by kernel_rfl) (by kernel_rfl) (by kernel_rfl) (fun _ _ _ h => h) (Or.inl ⟨by rfl, ?_⟩) (by assumption) ?_
                rotate_left
                · intro w hSw
                  try dsimp only at hSw
                  go_simp
                  try with_reducible rfl
                try simp only [Act.put, List.setIfInBounds_toArray, List.set_cons_zero, List.set_cons_succ]
                refine wpAnyH_take (i := 1) (oi := ⟨some 55, .load 3 (.tmp 54), _, _, _, none⟩) (v := ?_) rfl (by kernel_rfl) (by kernel_rfl) (by kernel_rfl) (fun _ _ _ h => h) (Or.inl ⟨by rfl, ?_⟩) (by assumption) ?_
                rotate_left
                · intro w hSw
                  try dsimp only at hSw
                  go_simp
                  try with_reducible rfl
                try simp only [Act.put, List.setIfInBounds_toArray, List.set_cons_zero, List.set_cons_succ]
                refine wpAnyH_take (i := 2) (oi := ⟨some 56, .move (.tmp 2), _, _, _, none⟩) (v := ?_) rfl (by kernel_rfl) (by kernel_rfl) (by kernel_rfl) (fun _ _ _ h => h) (Or.inl ⟨by rfl, ?_⟩) (by assumption) ?_
                rotate_left
                · intro w hSw
                  try dsimp only at hSw
                  go_simp
                  try with_reducible rfl
                try simp only [Act.put, List.setIfInBounds_toArray, List.set_cons_zero, List.set_cons_succ]
                refine wpAnyH_take (i := 3) (oi := ⟨some 57, .slice 24 (.tmp 56) (some (.const (.int .i64 1))) none none, _, _, _, none⟩) (v := ?_) rfl (by kernel_rfl) (by kernel_rfl) (by kernel_rfl) (fun _ _ _ h => h) (Or.inl ⟨by rfl, ?_⟩) (by assumption) ?_
                rotate_left
                · intro w hSw
                  try dsimp only at hSw
                  go_simp
                  first
                    | done
                    | with_reducible rfl
                    | (rw [if_pos (by omega)])
                try simp only [Act.put, List.setIfInBounds_toArray, List.set_cons_zero, List.set_cons_succ]
                refine wpAnyH_ready (rs := [4]) (by kernel_rfl) (by simp) ?_
                refine AllReadyH.cons (o := ⟨some 58, _, _, _, _, none⟩) rfl (fun K hK => ?_) AllReadyH.nil
                go_simp
                (go_at_call 31; refine (HA.out _ _ (by rw [HL0.out]; exact TL2.out.below (HB.out.bel.drew))).mono ?_; rintro e w11 ⟨v11, rfl, ow11, hb11⟩)
                obtain ⟨a11, c11, rfl⟩ := own_lenH ow11
                have OW11 := Kp.mk ow11
                have HB11 := Kp.mk (HB.out.call ((Below.refl _ _).drew.trans hb11))
                have N11 := Kp.mk ((hb11.block w9.heap.size (blk_lt N8.out)).trans N8.out)
                clear hb11 ow11
                try go_wp2_with fail
                refine hK.out _ _ (blk_cell (i := 4) HB11.out.b1 rfl) (fun hHeld2 => ?_)
                clear hK K
                try simp only [Act.put, List.setIfInBounds_toArray, List.set_cons_zero, List.set_cons_succ]
                refine wpAnyH_take (i := 5) (oi := ⟨some 53, .move (.tmp 58), _, _, _, none⟩) (v := ?_) rfl (by kernel_rfl) (by kernel_rfl) (by kernel_rfl) (fun _ _ _ h => h) (Or.inl ⟨by rfl, ?_⟩) (by assumption) ?_
                rotate_left
                · intro w hSw
                  try dsimp only at hSw
                  go_simp
                  try with_reducible rfl
                try simp only [Act.put, List.setIfInBounds_toArray, List.set_cons_zero, List.set_cons_succ]
                refine wpAnyH_take (i := 6) (oi := ⟨some 59, .extract (.tmp 53) 0, _, _, _, none⟩) (v := ?_) rfl (by kernel_rfl) (by kernel_rfl) (by kernel_rfl) (fun _ _ _ h => h) (Or.inl ⟨by rfl, ?_⟩) (by assumption) ?_
                rotate_left
                · intro w hSw
                  try dsimp only at hSw
                  go_simp
                  try with_reducible rfl
                try simp only [Act.put, List.setIfInBounds_toArray, List.set_cons_zero, List.set_cons_succ]
                refine wpAnyH_take (i := 7) (oi := ⟨some 60, .extract (.tmp 53) 1, _, _, _, none⟩) (v := ?_) rfl (by kernel_rfl) (by kernel_rfl) (by kernel_rfl) (fun _ _ _ h => h) (Or.inl ⟨by rfl, ?_⟩) (by assumption) ?_
                rotate_left
                · intro w hSw
                  try dsimp only at hSw
                  go_simp
                  try with_reducible rfl
                try simp only [Act.put, List.setIfInBounds_toArray, List.set_cons_zero, List.set_cons_succ]
                refine wpAnyH_take (i := 8) (oi := ⟨some 10, .assign (.tmp 59), _, _, _, none⟩) (v := ?_) rfl (by kernel_rfl) (by kernel_rfl) (by kernel_rfl) (fun _ _ _ h => h) (Or.inl ⟨by rfl, ?_⟩) (by assumption) ?_
                rotate_left
                · intro w hSw
                  try dsimp only at hSw
                  go_simp
                  try with_reducible rfl
                try simp only [Act.put, List.setIfInBounds_toArray, List.set_cons_zero, List.set_cons_succ]
                refine wpAnyH_take (i := 9) (oi := ⟨some 11, .assign (.tmp 60), _, _, _, none⟩) (v := ?_) rfl (by kernel_rfl) (by kernel_rfl) (by kernel_rfl) (fun _ _ _ h => h) (Or.inl ⟨by rfl, ?_⟩) (by assumption) ?_
                rotate_left
                · intro w hSw
                  try dsimp only at hSw
                  go_simp
                  try with_reducible rfl
                try simp only [Act.put, List.setIfInBounds_toArray, List.set_cons_zero, List.set_cons_succ]
                refine wpAnyH_done (by kernel_rfl) ?_ _
                try go_wp2_with fail
                try go_meet
                exact ⟨a11, c11, rfl, rfl, HB11.out, N11.out, own_lowF OW11.out (blk_lt N8.out)⟩
              case rest =>
                obtain ⟨a11, c11, rfl, rfl, hbx, hn12, how⟩ := hcut
                have HB12 := Kp.mk hbx
                have N12 := Kp.mk hn12
                have OW12 := Kp.mk how
                clear hbx hn12 how HB N8 l1 l4
                by_cases hae : ae = 0
                · subst hae
                  have HS := Kp.mk (HS4.out rfl)
                  have n5 := blk_cell (i := 5) N12.out rfl
                  have f5 := blk_free (i := 5) N12.out
                  have HB13 := Kp.mk (HB12.out.far hb8 5 (.slice a11 A.length c11))
                  have N13 := Kp.mk (show (wc.setCell ⟨w9.heap.size, 5, none⟩ (.slice a11 A.length c11)).heap[w9.heap.size]? = some (.cells #[.string (reqM s), .string (reqT s), .int .i64 (reqN s), .int .i64 0, .string ⟨#[]⟩, .slice a11 A.length c11] 29 (0, 0)) from (blk_set N12.out _).trans rfl)
                  have OW13 := Kp.mk (own_otherH (b := w9.heap.size) (o := 5) (u := .slice a11 A.length c11) OW12.out (by omega))
                  go_upto_region 16 with fail
                  repeat ((fail_if_success (with_reducible show Oper.wp _ (Oper.mk _ (.load _ _) _ _ _ _) _ _ _ _)); go_step)
                  refine wp_load_row _ _ (by rfl) w9.heap.size (by rfl) _ _ _ _ N13.out Tryz.underlying29 rfl (by kernel_rfl) ?_
                  simp only [Act.put]
                  repeat ((fail_if_success (with_reducible show Oper.wp _ (Oper.mk _ (.store _ _ _) _ _ _ _) _ _ _ _)); go_step)
                  refine wp_store_row _ _ _ (by rfl) _ #[.string (reqM s), .string (reqT s), .int .i64 (reqN s), .int .i64 0, .string ⟨#[]⟩, .slice a11 A.length c11] (by rfl) (by rfl) _ _ HB13.out.b2 (by kernel_rfl) rfl (by simp [Value.oneCell']) ?_
                  go_wp2_with fail
                  refine bodyPost_ret (v := .tuple #[.agg #[.string (reqM s), .string (reqT s), .int .i64 (reqN s), .int .i64 0, .string ⟨#[]⟩, .slice a11 A.length c11], .int .i64 0]) ?_ rfl ⟨.slice a11 A.length c11, by rw [HS.out] <;> rfl, by rw [HS.out]; exact own_lowF (B := _) (own_setRowH OW13.out (by omega) _) (by omega), below_setRow HB13.out.bel (by omega) _⟩
                  exact res_hd (p := 6) (q := 7) (ty := 29) (by kernel_rfl) _ _ (w.heap.size + 1) _ _ _ _ _ (by rfl) (by rfl) (setRow_heap _ _ _ _ _ _ HB13.out.b2) Tryz.underlying29 rfl (by kernel_rfl)
                · have HS := Kp.mk (HS3.out hae)
                  have hae2 : (ae != 0) = true := by rw [bne_iff_ne]; exact hae
                  go_upto_region 14 with fail
                  repeat ((fail_if_success (with_reducible show Oper.wp _ (Oper.mk _ (.store _ _ _) _ _ _ _) _ _ _ _)); go_step)
                  refine wp_store_row _ _ _ (by rfl) _ #[.string ⟨#[]⟩, .string ⟨#[]⟩, .int .i64 0, .int .i64 0, .string ⟨#[]⟩, .slice none 0 0] (by rfl) (by rfl) _ _ HB12.out.b2 (by kernel_rfl) rfl (by decide +kernel) ?_
                  go_wp2_with fail
                  refine bodyPost_ret (v := .tuple #[.agg #[.string ⟨#[]⟩, .string ⟨#[]⟩, .int .i64 0, .int .i64 0, .string ⟨#[]⟩, .slice none 0 0], .int .i64 ae]) ?_ rfl ⟨.slice none 0 0, by rw [HS.out] <;> rfl, by rw [HS.out]; exact World.ownsRow_nil _ _ _ _, below_setRow HB12.out.bel (by omega) _⟩
                  exact res_hd (p := 6) (q := 7) (ty := 29) (by kernel_rfl) _ _ (w.heap.size + 1) _ _ _ _ _ (by rfl) (by rfl) (setRow_heap _ _ _ _ _ _ HB12.out.b2) Tryz.underlying29 rfl (by kernel_rfl)
        · have HS := Kp.mk (HS1.out he)
          have he2 : (fe != 0) = true := by rw [bne_iff_ne]; exact he
          have he3 : (fe == 0) = false := by rw [beq_eq_false_iff_ne]; exact he
          go_upto_region 11 with fail
          repeat ((fail_if_success (with_reducible show Oper.wp _ (Oper.mk _ (.store _ _ _) _ _ _ _) _ _ _ _)); go_step)
          refine wp_store_row _ _ _ (by rfl) _ #[.string ⟨#[]⟩, .string ⟨#[]⟩, .int .i64 0, .int .i64 0, .string ⟨#[]⟩, .slice none 0 0] (by rfl) (by rfl) _ _ HB.out.b2 (by kernel_rfl) rfl (by decide +kernel) ?_
          go_wp2_with fail
          refine bodyPost_ret (v := .tuple #[.agg #[.string ⟨#[]⟩, .string ⟨#[]⟩, .int .i64 0, .int .i64 0, .string ⟨#[]⟩, .slice none 0 0], .int .i64 fe]) ?_ rfl ⟨.slice none 0 0, by rw [HS.out] <;> rfl, by rw [HS.out]; exact World.ownsRow_nil _ _ _ _, below_setRow HB.out.bel (by omega) _⟩
          exact res_hd (p := 6) (q := 7) (ty := 29) (by kernel_rfl) _ _ (w.heap.size + 1) _ _ _ _ _ (by rfl) (by rfl) (setRow_heap _ _ _ _ _ _ HB.out.b2) Tryz.underlying29 rfl (by kernel_rfl)
      · have hf := HFH.out
        have hfe := HFE.out
        unfold flH at hf
        unfold flE at hfe
        rw [if_pos rfl] at hf hfe
        cases hf
        go_enter Tryz.func10, Tryz.ntmps10
        go_wp2_with fail
        refine (HRQ.out _).mono ?_
        rintro e w9 ⟨rfl, hb9⟩
        have N8 := Kp.mk (heap_alloc_new w9 (.cells #[.string (reqM s), .string (reqT s), .int .i64 (reqN s), .int .i64 0, .string ⟨#[]⟩, .slice none 0 0] 29))
        have hb8 : w.heap.size + 2 ≤ w9.heap.size := by have := blk_lt (HB.out.call hb9).b2; omega
        have c9 := hb9.cell (p := ⟨g, o, none⟩) (blk_of_cellH c0')
        rw [c0'] at c9
        have c9' := ((Below.refl _ w9).alloc (Nat.le_refl _) (.cells #[.string (reqM s), .string (reqT s), .int .i64 (reqN s), .int .i64 0, .string ⟨#[]⟩, .slice none 0 0] 29)).cell (p := ⟨g, o, none⟩) (blk_of_cellH c9)
        rw [c9] at c9'
        replace HB := Kp.mk ((HB.out.call hb9).alloc (.cells #[.string (reqM s), .string (reqT s), .int .i64 (reqN s), .int .i64 0, .string ⟨#[]⟩, .slice none 0 0] 29))
        clear hb9 c0' c9
        go_wp2_with fail
        refine (HST.out _).mono ?_
        rintro e w10 ⟨rfl, hb10⟩
        rw [hfe]
        replace N8 := Kp.mk ((hb10.block _ (blk_lt N8.out)).trans N8.out)
        replace HB := Kp.mk (HB.out.call hb10)
        clear hb10 c9' hfe HFE HFH HK HST HRQ
        generalize w9.heap.size = b8 at *
        dsimp only
        repeat ((fail_if_success (with_reducible show Oper.wp _ (Oper.mk _ (.store _ _ _) _ _ _ _) _ _ _ _)); go_step)
        refine wp_store_row _ _ _ (by rfl) _ #[.string ⟨#[]⟩, .string ⟨#[]⟩, .int .i64 (staN s), .int .i64 (staS s), .string (staR s), .slice none 0 0] (by rfl) (by rfl) _ _ N8.out (by kernel_rfl) rfl (by simp [Value.oneCell']) ?_
        simp only [Act.put]
        replace HB := Kp.mk (HB.out.row hb8 #[.string ⟨#[]⟩, .string ⟨#[]⟩, .int .i64 (staN s), .int .i64 (staS s), .string (staR s), .slice none 0 0])
        replace N8 := Kp.mk (setRow_heap _ _ _ (#[.string ⟨#[]⟩, .string ⟨#[]⟩, .int .i64 (staN s), .int .i64 (staS s), .string (staR s), .slice none 0 0] : Array Value) _ _ N8.out)
        generalize w10.setRow b8 #[.string ⟨#[]⟩, .string ⟨#[]⟩, .int .i64 (staN s), .int .i64 (staS s), .string (staR s), .slice none 0 0] = w11 at *
        have l1 := blk_cell (i := 1) HB.out.b1 rfl
        have l4 := blk_cell (i := 4) HB.out.b1 rfl
        by_cases he : fe = 0
        · subst he
          by_cases hm : lf < (L.length : Int)
          · have HS := Kp.mk (HS2.out rfl hm)
            go_upto_region 11 with fail
            repeat ((fail_if_success (with_reducible show Oper.wp _ (Oper.mk _ (.store _ _ _) _ _ _ _) _ _ _ _)); go_step)
            refine wp_store_row _ _ _ (by rfl) _ #[.string ⟨#[]⟩, .string ⟨#[]⟩, .int .i64 0, .int .i64 0, .string ⟨#[]⟩, .slice none 0 0] (by rfl) (by rfl) _ _ HB.out.b2 (by kernel_rfl) rfl (by decide +kernel) ?_
            go_wp2_with fail
            refine bodyPost_ret (v := .tuple #[.agg #[.string ⟨#[]⟩, .string ⟨#[]⟩, .int .i64 0, .int .i64 0, .string ⟨#[]⟩, .slice none 0 0], .int .i64 4]) ?_ rfl ⟨.slice none 0 0, by rw [HS.out] <;> rfl, by rw [HS.out]; exact World.ownsRow_nil _ _ _ _, below_setRow HB.out.bel (by omega) _⟩
            exact res_hd (p := 6) (q := 7) (ty := 29) (by kernel_rfl) _ _ (w.heap.size + 1) _ _ _ _ _ (by rfl) (by rfl) (setRow_heap _ _ _ _ _ _ HB.out.b2) Tryz.underlying29 rfl (by kernel_rfl)
          · have HA := Kp.mk (fun u w hu => rfall_any fold u L w hu (by omega) HZ2.out)
            unfold RetUA at HA
            replace HS3 := Kp.mk (fun q => HS3.out rfl (by omega) q)
            replace HS4 := Kp.mk (fun q => HS4.out rfl (by omega) q)
            generalize afL fold L = A at *
            generalize afE fold L = ae at *
            rcases Nat.lt_or_ge 1 cv with hc1 | hc1
            · have hc2 : (1 : Int) < (cv : Int) := by omega
              have hc3 : (1 : Int) ≤ (cv : Int) := by omega
              have hc4 : ¬ (cv : Int) = 1 := by omega
              have hc5 : ¬ cv = 1 := by omega
              go_upto_region 12 with fail
              go_cut [10, 11] (fun s10 s11 wx => ∃ (a11 : Option Addr) (c11 : Nat), s10 = .slice a11 A.length c11 ∧ s11 = .int .i64 ae ∧ Hx w.heap.size #[.int .i64 x0, .int .i64 lf, .int .i64 x2, .int .i64 x3, .int .i64 fold] #[.string ⟨#[]⟩, .string ⟨#[]⟩, .int .i64 0, .int .i64 0, .string ⟨#[]⟩, .slice none 0 0] w wx ∧ wx.heap[b8]? = some (.cells #[.string ⟨#[]⟩, .string ⟨#[]⟩, .int .i64 (staN s), .int .i64 (staS s), .string (staR s), .slice none 0 0] 29 (0, 0)) ∧ wx.ownsRow (b8 + 1) 67 2 (.slice a11 A.length c11) A.length (fvH A))
              case first =>
                refine wp_region_held_drew (S := fun w' => w'.cell? ⟨w.heap.size, 4, none⟩ = some (.int .i64 fold)) (by kernel_rfl) (l4) (fun hHeld => ?_)
                refine wpAnyH_take (i := 0) (oi := ⟨some 54, .fieldAddr 23 (.tmp 4) 4, _, _, _, none⟩) (v := ?_) rfl (by kernel_rfl) (by kernel_rfl) (by kernel_rfl) (fun _ _ _ h => h) (Or.inl ⟨by rfl, ?_⟩) (by assumption) ?_
                rotate_left
                · intro w hSw
                  try dsimp only at hSw
                  go_simp
                  try with_reducible rfl
                try simp only [Act.put, List.setIfInBounds_toArray, List.set_cons_zero, List.set_cons_succ]
                refine wpAnyH_take (i := 1) (oi := ⟨some 55, .load 3 (.tmp 54), _, _, _, none⟩) (v := ?_) rfl (by kernel_rfl) (by kernel_rfl) (by kernel_rfl) (fun _ _ _ h => h) (Or.inl ⟨by rfl, ?_⟩) (by assumption) ?_
                rotate_left
                · intro w hSw
                  try dsimp only at hSw
                  go_simp
                  try with_reducible rfl
                try simp only [Act.put, List.setIfInBounds_toArray, List.set_cons_zero, List.set_cons_succ]
                refine wpAnyH_take (i := 2) (oi := ⟨some 56, .move (.tmp 2), _, _, _, none⟩) (v := ?_) rfl (by kernel_rfl) (by kernel_rfl) (by kernel_rfl) (fun _ _ _ h => h) (Or.inl ⟨by rfl, ?_⟩) (by assumption) ?_
                rotate_left
                · intro w hSw
                  try dsimp only at hSw
                  go_simp
                  try with_reducible rfl
                try simp only [Act.put, List.setIfInBounds_toArray, List.set_cons_zero, List.set_cons_succ]
                refine wpAnyH_take (i := 3) (oi := ⟨some 57, .slice 24 (.tmp 56) (some (.const (.int .i64 1))) none none, _, _, _, none⟩) (v := ?_) rfl (by kernel_rfl) (by kernel_rfl) (by kernel_rfl) (fun _ _ _ h => h) (Or.inl ⟨by rfl, ?_⟩) (by assumption) ?_
                rotate_left
                · intro w hSw
                  try dsimp only at hSw
                  go_simp
                  first
                    | done
                    | with_reducible rfl
                    | (rw [if_pos (by omega)])
                try simp only [Act.put, List.setIfInBounds_toArray, List.set_cons_zero, List.set_cons_succ]
                refine wpAnyH_ready (rs := [4]) (by kernel_rfl) (by simp) ?_
                refine AllReadyH.cons (o := ⟨some 58, _, _, _, _, none⟩) rfl (fun K hK => ?_) AllReadyH.nil
                go_simp
                (go_at_call 31; refine (HA.out _ _ (TL1.out.below (HB.out.bel.drew))).mono ?_; rintro e w11 ⟨v11, rfl, ow11, hb11⟩)
                obtain ⟨a11, c11, rfl⟩ := own_lenH ow11
                have OW11 := Kp.mk ow11
                have HB11 := Kp.mk (HB.out.call ((Below.refl _ _).drew.trans hb11))
                have N11 := Kp.mk ((hb11.block b8 (blk_lt N8.out)).trans N8.out)
                clear hb11 ow11
                try go_wp2_with fail
                refine hK.out _ _ (blk_cell (i := 4) HB11.out.b1 rfl) (fun hHeld2 => ?_)
                clear hK K
                try simp only [Act.put, List.setIfInBounds_toArray, List.set_cons_zero, List.set_cons_succ]
                refine wpAnyH_take (i := 5) (oi := ⟨some 53, .move (.tmp 58), _, _, _, none⟩) (v := ?_) rfl (by kernel_rfl) (by kernel_rfl) (by kernel_rfl) (fun _ _ _ h => h) (Or.inl ⟨by rfl, ?_⟩) (by assumption) ?_
                rotate_left
                · intro w hSw
                  try dsimp only at hSw
                  go_simp
                  try with_reducible rfl
                try simp only [Act.put, List.setIfInBounds_toArray, List.set_cons_zero, List.set_cons_succ]
                refine wpAnyH_take (i := 6) (oi := ⟨some 59, .extract (.tmp 53) 0, _, _, _, none⟩) (v := ?_) rfl (by kernel_rfl) (by kernel_rfl) (by kernel_rfl) (fun _ _ _ h => h) (Or.inl ⟨by rfl, ?_⟩) (by assumption) ?_
                rotate_left
                · intro w hSw
                  try dsimp only at hSw
                  go_simp
                  try with_reducible rfl
                try simp only [Act.put, List.setIfInBounds_toArray, List.set_cons_zero, List.set_cons_succ]
                refine wpAnyH_take (i := 7) (oi := ⟨some 60, .extract (.tmp 53) 1, _, _, _, none⟩) (v := ?_) rfl (by kernel_rfl) (by kernel_rfl) (by kernel_rfl) (fun _ _ _ h => h) (Or.inl ⟨by rfl, ?_⟩) (by assumption) ?_
                rotate_left
                · intro w hSw
                  try dsimp only at hSw
                  go_simp
                  try with_reducible rfl
                try simp only [Act.put, List.setIfInBounds_toArray, List.set_cons_zero, List.set_cons_succ]
                refine wpAnyH_take (i := 8) (oi := ⟨some 10, .assign (.tmp 59), _, _, _, none⟩) (v := ?_) rfl (by kernel_rfl) (by kernel_rfl) (by kernel_rfl) (fun _ _ _ h => h) (Or.inl ⟨by rfl, ?_⟩) (by assumption) ?_
                rotate_left
                · intro w hSw
                  try dsimp only at hSw
                  go_simp
                  try with_reducible rfl
                try simp only [Act.put, List.setIfInBounds_toArray, List.set_cons_zero, List.set_cons_succ]
                refine wpAnyH_take (i := 9) (oi := ⟨some 11, .assign (.tmp 60), _, _, _, none⟩) (v := ?_) rfl (by kernel_rfl) (by kernel_rfl) (by kernel_rfl) (fun _ _ _ h => h) (Or.inl ⟨by rfl, ?_⟩) (by assumption) ?_
                rotate_left
                · intro w hSw
                  try dsimp only at hSw
                  go_simp
                  try with_reducible rfl
                try simp only [Act.put, List.setIfInBounds_toArray, List.set_cons_zero, List.set_cons_succ]
                refine wpAnyH_done (by kernel_rfl) ?_ _
                try go_wp2_with fail
                try go_meet
                exact ⟨a11, c11, rfl, rfl, HB11.out, N11.out, own_lowF OW11.out (blk_lt N8.out)⟩
              case rest =>
                obtain ⟨a11, c11, rfl, rfl, hbx, hn12, how⟩ := hcut
                have HB12 := Kp.mk hbx
                have N12 := Kp.mk hn12
                have OW12 := Kp.mk how
                clear hbx hn12 how HB N8 l1 l4
                by_cases hae : ae = 0
                · subst hae
                  have HS := Kp.mk (HS4.out rfl)
                  have n5 := blk_cell (i := 5) N12.out rfl
                  have f5 := blk_free (i := 5) N12.out
                  have HB13 := Kp.mk (HB12.out.far hb8 5 (.slice a11 A.length c11))
                  have N13 := Kp.mk (show (wc.setCell ⟨b8, 5, none⟩ (.slice a11 A.length c11)).heap[b8]? = some (.cells #[.string ⟨#[]⟩, .string ⟨#[]⟩, .int .i64 (staN s), .int .i64 (staS s), .string (staR s), .slice a11 A.length c11] 29 (0, 0)) from (blk_set N12.out _).trans rfl)
                  have OW13 := Kp.mk (own_otherH (b := b8) (o := 5) (u := .slice a11 A.length c11) OW12.out (by omega))
                  go_upto_region 16 with fail
                  repeat ((fail_if_success (with_reducible show Oper.wp _ (Oper.mk _ (.load _ _) _ _ _ _) _ _ _ _)); go_step)
                  refine wp_load_row _ _ (by rfl) b8 (by rfl) _ _ _ _ N13.out Tryz.underlying29 rfl (by kernel_rfl) ?_
                  simp only [Act.put]
                  repeat ((fail_if_success (with_reducible show Oper.wp _ (Oper.mk _ (.store _ _ _) _ _ _ _) _ _ _ _)); go_step)
                  refine wp_store_row _ _ _ (by rfl) _ #[.string ⟨#[]⟩, .string ⟨#[]⟩, .int .i64 (staN s), .int .i64 (staS s), .string (staR s), .slice a11 A.length c11] (by rfl) (by rfl) _ _ HB13.out.b2 (by kernel_rfl) rfl (by simp [Value.oneCell']) ?_
                  go_wp2_with fail
                  refine bodyPost_ret (v := .tuple #[.agg #[.string ⟨#[]⟩, .string ⟨#[]⟩, .int .i64 (staN s), .int .i64 (staS s), .string (staR s), .slice a11 A.length c11], .int .i64 0]) ?_ rfl ⟨.slice a11 A.length c11, by rw [HS.out] <;> rfl, by rw [HS.out]; exact own_lowF (B := _) (own_setRowH OW13.out (by omega) _) (by omega), below_setRow HB13.out.bel (by omega) _⟩
                  exact res_hd (p := 6) (q := 7) (ty := 29) (by kernel_rfl) _ _ (w.heap.size + 1) _ _ _ _ _ (by rfl) (by rfl) (setRow_heap _ _ _ _ _ _ HB13.out.b2) Tryz.underlying29 rfl (by kernel_rfl)
                · have HS := Kp.mk (HS3.out hae)
                  have hae2 : (ae != 0) = true := by rw [bne_iff_ne]; exact hae
                  go_upto_region 14 with fail
                  repeat ((fail_if_success (with_reducible show Oper.wp _ (Oper.mk _ (.store _ _ _) _ _ _ _) _ _ _ _)); go_step)
                  refine wp_store_row _ _ _ (by rfl) _ #[.string ⟨#[]⟩, .string ⟨#[]⟩, .int .i64 0, .int .i64 0, .string ⟨#[]⟩, .slice none 0 0] (by rfl) (by rfl) _ _ HB12.out.b2 (by kernel_rfl) rfl (by decide +kernel) ?_
                  go_wp2_with fail
                  refine bodyPost_ret (v := .tuple #[.agg #[.string ⟨#[]⟩, .string ⟨#[]⟩, .int .i64 0, .int .i64 0, .string ⟨#[]⟩, .slice none 0 0], .int .i64 ae]) ?_ rfl ⟨.slice none 0 0, by rw [HS.out] <;> rfl, by rw [HS.out]; exact World.ownsRow_nil _ _ _ _, below_setRow HB12.out.bel (by omega) _⟩
                  exact res_hd (p := 6) (q := 7) (ty := 29) (by kernel_rfl) _ _ (w.heap.size + 1) _ _ _ _ _ (by rfl) (by rfl) (setRow_heap _ _ _ _ _ _ HB12.out.b2) Tryz.underlying29 rfl (by kernel_rfl)
            · obtain rfl : cv = 1 := by omega
              have HL0 := Kp.mk (show L = [] from List.eq_nil_of_length_eq_zero (by omega))
              go_upto_region 12 with fail
              go_cut [10, 11] (fun s10 s11 wx => ∃ (a11 : Option Addr) (c11 : Nat), s10 = .slice a11 A.length c11 ∧ s11 = .int .i64 ae ∧ Hx w.heap.size #[.int .i64 x0, .int .i64 lf, .int .i64 x2, .int .i64 x3, .int .i64 fold] #[.string ⟨#[]⟩, .string ⟨#[]⟩, .int .i64 0, .int .i64 0, .string ⟨#[]⟩, .slice none 0 0] w wx ∧ wx.heap[b8]? = some (.cells #[.string ⟨#[]⟩, .string ⟨#[]⟩, .int .i64 (staN s), .int .i64 (staS s), .string (staR s), .slice none 0 0] 29 (0, 0)) ∧ wx.ownsRow (b8 + 1) 67 2 (.slice a11 A.length c11) A.length (fvH A))
              case first =>
                refine wp_region_held_drew (S := fun w' => w'.cell? ⟨w.heap.size, 4, none⟩ = some (.int .i64 fold)) (by kernel_rfl) (l4) (fun hHeld => ?_)
                refine wpAnyH_take (i := 0) (oi := ⟨some 54, .fieldAddr 23 (.tmp 4) 4, _, _, _, none⟩) (v := ?_) rfl (by kernel_rfl) (by kernel_rfl) (by kernel_rfl) (fun _ _ _ h => h) (Or.inl ⟨by rfl, ?_⟩) (by assumption) ?_
                rotate_left
                · intro w hSw
                  try dsimp only at hSw
                  go_simp
                  try with_reducible rfl
                try simp only [Act.put, List.setIfInBounds_toArray, List.set_cons_zero, List.set_cons_succ]
                refine wpAnyH_take (i := 1) (oi := ⟨some 55, .load 3 (.tmp 54), _, _, _, none⟩) (v := ?_) rfl (by kernel_rfl) (by kernel_rfl) (by kernel_rfl) (fun _ _ _ h => h) (Or.inl ⟨by rfl, ?_⟩) (by assumption) ?_
                rotate_left
                · intro w hSw
                  try dsimp only at hSw
                  go_simp
                  try with_reducible rfl
                try simp only [Act.put, List.setIfInBounds_toArray, List.set_cons_zero, List.set_cons_succ]
                refine wpAnyH_take (i := 2) (oi := ⟨some 56, .move (.tmp 2), _, _, _, none⟩) (v := ?_) rfl (by kernel_rfl) (by kernel_rfl) (by kernel_rfl) (fun _ _ _ h => h) (Or.inl ⟨by rfl, ?_⟩) (by assumption) ?_
                rotate_left
                · intro w hSw
                  try dsimp only at hSw
                  go_simp
                  try with_reducible rfl
                try simp only [Act.put, List.setIfInBounds_toArray, List.set_cons_zero, List.set_cons_succ]
                refine wpAnyH_take (i := 3) (oi := ⟨some 57, .slice 24 (.tmp 56) (some (.const (.int .i64 1))) none none, _, _, _, none⟩) (v := ?_) rfl (by kernel_rfl) (by kernel_rfl) (by kernel_rfl) (fun _ _ _ h => h) (Or.inl ⟨by rfl, ?_⟩) (by assumption) ?_
                rotate_left
                · intro w hSw
                  try dsimp only at hSw
                  go_simp
                  first
                    | done
                    | with_reducible rfl
                    | (rw [if_pos (by omega)])
                try simp only [Act.put, List.setIfInBounds_toArray, List.set_cons_zero, List.set_cons_succ]
                refine wpAnyH_ready (rs := [4]) (by kernel_rfl) (by simp) ?_
                refine AllReadyH.cons (o := ⟨some 58, _, _, _, _, none⟩) rfl (fun K hK => ?_) AllReadyH.nil
                go_simp
                (go_at_call 31; refine (HA.out _ _ (by rw [HL0.out]; exact TL2.out.below (HB.out.bel.drew))).mono ?_; rintro e w11 ⟨v11, rfl, ow11, hb11⟩)
                obtain ⟨a11, c11, rfl⟩ := own_lenH ow11
                have OW11 := Kp.mk ow11
                have HB11 := Kp.mk (HB.out.call ((Below.refl _ _).drew.trans hb11))
                have N11 := Kp.mk ((hb11.block b8 (blk_lt N8.out)).trans N8.out)
                clear hb11 ow11
                try go_wp2_with fail
                refine hK.out _ _ (blk_cell (i := 4) HB11.out.b1 rfl) (fun hHeld2 => ?_)
                clear hK K
                try simp only [Act.put, List.setIfInBounds_toArray, List.set_cons_zero, List.set_cons_succ]
                refine wpAnyH_take (i := 5) (oi := ⟨some 53, .move (.tmp 58), _, _, _, none⟩) (v := ?_) rfl (by kernel_rfl) (by kernel_rfl) (by kernel_rfl) (fun _ _ _ h => h) (Or.inl ⟨by rfl, ?_⟩) (by assumption) ?_
                rotate_left
                · intro w hSw
                  try dsimp only at hSw
                  go_simp
                  try with_reducible rfl
                try simp only [Act.put, List.setIfInBounds_toArray, List.set_cons_zero, List.set_cons_succ]
                refine wpAnyH_take (i := 6) (oi := ⟨some 59, .extract (.tmp 53) 0, _, _, _, none⟩) (v := ?_) rfl (by kernel_rfl) (by kernel_rfl) (by kernel_rfl) (fun _ _ _ h => h) (Or.inl ⟨by rfl, ?_⟩) (by assumption) ?_
                rotate_left
                · intro w hSw
                  try dsimp only at hSw
                  go_simp
                  try with_reducible rfl
                try simp only [Act.put, List.setIfInBounds_toArray, List.set_cons_zero, List.set_cons_succ]
                refine wpAnyH_take (i := 7) (oi := ⟨some 60, .extract (.tmp 53) 1, _, _, _, none⟩) (v := ?_) rfl (by kernel_rfl) (by kernel_rfl) (by kernel_rfl) (fun _ _ _ h => h) (Or.inl ⟨by rfl, ?_⟩) (by assumption) ?_
                rotate_left
                · intro w hSw
                  try dsimp only at hSw
                  go_simp
                  try with_reducible rfl
                try simp only [Act.put, List.setIfInBounds_toArray, List.set_cons_zero, List.set_cons_succ]
                refine wpAnyH_take (i := 8) (oi := ⟨some 10, .assign (.tmp 59), _, _, _, none⟩) (v := ?_) rfl (by kernel_rfl) (by kernel_rfl) (by kernel_rfl) (fun _ _ _ h => h) (Or.inl ⟨by rfl, ?_⟩) (by assumption) ?_
                rotate_left
                · intro w hSw
                  try dsimp only at hSw
                  go_simp
                  try with_reducible rfl
                try simp only [Act.put, List.setIfInBounds_toArray, List.set_cons_zero, List.set_cons_succ]
                refine wpAnyH_take (i := 9) (oi := ⟨some 11, .assign (.tmp 60), _, _, _, none⟩) (v := ?_) rfl (by kernel_rfl) (by kernel_rfl) (by kernel_rfl) (fun _ _ _ h => h) (Or.inl ⟨by rfl, ?_⟩) (by assumption) ?_
                rotate_left
                · intro w hSw
                  try dsimp only at hSw
                  go_simp
                  try with_reducible rfl
                try simp only [Act.put, List.setIfInBounds_toArray, List.set_cons_zero, List.set_cons_succ]
                refine wpAnyH_done (by kernel_rfl) ?_ _
                try go_wp2_with fail
                try go_meet
                exact ⟨a11, c11, rfl, rfl, HB11.out, N11.out, own_lowF OW11.out (blk_lt N8.out)⟩
              case rest =>
                obtain ⟨a11, c11, rfl, rfl, hbx, hn12, how⟩ := hcut
                have HB12 := Kp.mk hbx
                have N12 := Kp.mk hn12
                have OW12 := Kp.mk how
                clear hbx hn12 how HB N8 l1 l4
                by_cases hae : ae = 0
                · subst hae
                  have HS := Kp.mk (HS4.out rfl)
                  have n5 := blk_cell (i := 5) N12.out rfl
                  have f5 := blk_free (i := 5) N12.out
                  have HB13 := Kp.mk (HB12.out.far hb8 5 (.slice a11 A.length c11))
                  have N13 := Kp.mk (show (wc.setCell ⟨b8, 5, none⟩ (.slice a11 A.length c11)).heap[b8]? = some (.cells #[.string ⟨#[]⟩, .string ⟨#[]⟩, .int .i64 (staN s), .int .i64 (staS s), .string (staR s), .slice a11 A.length c11] 29 (0, 0)) from (blk_set N12.out _).trans rfl)
                  have OW13 := Kp.mk (own_otherH (b := b8) (o := 5) (u := .slice a11 A.length c11) OW12.out (by omega))
                  go_upto_region 16 with fail
                  repeat ((fail_if_success (with_reducible show Oper.wp _ (Oper.mk _ (.load _ _) _ _ _ _) _ _ _ _)); go_step)
                  refine wp_load_row _ _ (by rfl) b8 (by rfl) _ _ _ _ N13.out Tryz.underlying29 rfl (by kernel_rfl) ?_
                  simp only [Act.put]
                  repeat ((fail_if_success (with_reducible show Oper.wp _ (Oper.mk _ (.store _ _ _) _ _ _ _) _ _ _ _)); go_step)
                  refine wp_store_row _ _ _ (by rfl) _ #[.string ⟨#[]⟩, .string ⟨#[]⟩, .int .i64 (staN s), .int .i64 (staS s), .string (staR s), .slice a11 A.length c11] (by rfl) (by rfl) _ _ HB13.out.b2 (by kernel_rfl) rfl (by simp [Value.oneCell']) ?_
                  go_wp2_with fail
                  refine bodyPost_ret (v := .tuple #[.agg #[.string ⟨#[]⟩, .string ⟨#[]⟩, .int .i64 (staN s), .int .i64 (staS s), .string (staR s), .slice a11 A.length c11], .int .i64 0]) ?_ rfl ⟨.slice a11 A.length c11, by rw [HS.out] <;> rfl, by rw [HS.out]; exact own_lowF (B := _) (own_setRowH OW13.out (by omega) _) (by omega), below_setRow HB13.out.bel (by omega) _⟩
                  exact res_hd (p := 6) (q := 7) (ty := 29) (by kernel_rfl) _ _ (w.heap.size + 1) _ _ _ _ _ (by rfl) (by rfl) (setRow_heap _ _ _ _ _ _ HB13.out.b2) Tryz.underlying29 rfl (by kernel_rfl)
                · have HS := Kp.mk (HS3.out hae)
                  have hae2 : (ae != 0) = true := by rw [bne_iff_ne]; exact hae
                  go_upto_region 14 with fail
                  repeat ((fail_if_success (with_reducible show Oper.wp _ (Oper.mk _ (.store _ _ _) _ _ _ _) _ _ _ _)); go_step)
                  refine wp_store_row _ _ _ (by rfl) _ #[.string ⟨#[]⟩, .string ⟨#[]⟩, .int .i64 0, .int .i64 0, .string ⟨#[]⟩, .slice none 0 0] (by rfl) (by rfl) _ _ HB12.out.b2 (by kernel_rfl) rfl (by decide +kernel) ?_
                  go_wp2_with fail
                  refine bodyPost_ret (v := .tuple #[.agg #[.string ⟨#[]⟩, .string ⟨#[]⟩, .int .i64 0, .int .i64 0, .string ⟨#[]⟩, .slice none 0 0], .int .i64 ae]) ?_ rfl ⟨.slice none 0 0, by rw [HS.out] <;> rfl, by rw [HS.out]; exact World.ownsRow_nil _ _ _ _, below_setRow HB12.out.bel (by omega) _⟩
                  exact res_hd (p := 6) (q := 7) (ty := 29) (by kernel_rfl) _ _ (w.heap.size + 1) _ _ _ _ _ (by rfl) (by rfl) (setRow_heap _ _ _ _ _ _ HB12.out.b2) Tryz.underlying29 rfl (by kernel_rfl)
        · have HS := Kp.mk (HS1.out he)
          have he2 : (fe != 0) = true := by rw [bne_iff_ne]; exact he
          have he3 : (fe == 0) = false := by rw [beq_eq_false_iff_ne]; exact he
          go_upto_region 11 with fail
          repeat ((fail_if_success (with_reducible show Oper.wp _ (Oper.mk _ (.store _ _ _) _ _ _ _) _ _ _ _)); go_step)
          refine wp_store_row _ _ _ (by rfl) _ #[.string ⟨#[]⟩, .string ⟨#[]⟩, .int .i64 0, .int .i64 0, .string ⟨#[]⟩, .slice none 0 0] (by rfl) (by rfl) _ _ HB.out.b2 (by kernel_rfl) rfl (by decide +kernel) ?_
          go_wp2_with fail
          refine bodyPost_ret (v := .tuple #[.agg #[.string ⟨#[]⟩, .string ⟨#[]⟩, .int .i64 0, .int .i64 0, .string ⟨#[]⟩, .slice none 0 0], .int .i64 fe]) ?_ rfl ⟨.slice none 0 0, by rw [HS.out] <;> rfl, by rw [HS.out]; exact World.ownsRow_nil _ _ _ _, below_setRow HB.out.bel (by omega) _⟩
          exact res_hd (p := 6) (q := 7) (ty := 29) (by kernel_rfl) _ _ (w.heap.size + 1) _ _ _ _ _ (by rfl) (by rfl) (setRow_heap _ _ _ _ _ _ HB.out.b2) Tryz.underlying29 rfl (by kernel_rfl)
end Go.Proofs.YtcbfhlnnfnpkdaaGreatDoor
