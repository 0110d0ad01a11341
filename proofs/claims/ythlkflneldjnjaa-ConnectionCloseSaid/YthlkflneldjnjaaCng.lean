/- Connections (layer 17): how long one is kept, the document's. -/
import Derived.Test.YthlkflneldjnjaaCnf
namespace Go.Proofs.Ythlkflneldjnjaa
open Go.RowKit
set_option linter.unusedVariables false
set_option linter.unusedSimpArgs false

theorem low_T : lowB nmT = nmT := by decide +kernel
theorem low_M : lowB nmM = nmM := by decide +kernel
theorem tl_T : nmT.toList = [116, 105, 109, 101, 111, 117, 116] := by rw [ByteArray.toList_eq]; rfl
theorem tl_M : nmM.toList = [109, 97, 120] := by rw [ByteArray.toList_eq]; rfl
theorem fold_T (x : ByteArray) : foldB x nmT = ((lowB x).toList == nmT.toList) := by unfold foldB; rw [low_T]
theorem fold_M (x : ByteArray) : foldB x nmM = ((lowB x).toList == nmM.toList) := by unfold foldB; rw [low_M]
set_option maxRecDepth 100000 in
set_option maxHeartbeats 4000000 in
theorem rcalive_any (vl : Value) (l : List Fld) (w : World) (hv : RdF w vl l) (hF : FewF l) :
    Calls Try.prog 23 #[vl] w fun e w' => e = .returned (alT (alR l)) ∧ Below w.heap.size w w' := by
  have hcz := hF.comb nmKeep
  have hln := splL_len (hJoin (hAll l nmKeep))
  have HZ := Kp.mk (fun x (h : x ∈ splL (hJoin (hAll l nmKeep))) => show x.size ≤ 100000 by have h1 := (splL_mem h).2; omega)
  have HD := Kp.mk (show alR l = if hIs l nmKeep = true ∧ splB (hJoin (hAll l nmKeep)) = true then alFold (splL (hJoin (hAll l nmKeep))) (0, 0) else none from rfl)
  have HV := Kp.mk hv
  have HS := Kp.mk hF.sm
  have hl5 := hF.len
  have HBA := Kp.mk ((Below.refl w.heap.size w).alloc (Nat.le_refl _) (.cells #[.int .i64 0, .int .i64 0] 34))
  have HKA := Kp.mk (heap_alloc_new w (.cells #[.int .i64 0, .int .i64 0] 34))
  clear hF hv
  go_enter Try.func23, Try.ntmps23
  go_wp2_with fail
  refine (rhcomb_any vl l nmKeep _ (HV.out.below HBA.out) HS.out (by omega) (by decide)).mono ?_
  rintro e w1 ⟨rfl, hb1⟩
  have HB1 := Kp.mk (HBA.out.trans (hb1.mono HBA.out.size))
  have HK1 := Kp.mk ((hb1.block w.heap.size (blk_lt HKA.out)).trans HKA.out)
  clear hb1
  generalize hJoin (hAll l nmKeep) = v at *
  generalize hIs l nmKeep = hi at *
  go_wp2_with fail
  refine (rsplit_any v _ (by omega)).mono ?_
  rintro e w2 ⟨u, rfl, ho, hb2⟩
  have HB2 := Kp.mk (HB1.out.trans (hb2.mono HB1.out.size))
  have HK2 := Kp.mk ((hb2.block w.heap.size (blk_lt HK1.out)).trans HK1.out)
  have HR := Kp.mk (rds_own ho)
  obtain ⟨a, c, rfl⟩ := own_lenH ho
  have hz2 := blk_lt HK2.out
  clear ho hb2
  generalize splL v = L at *
  generalize splB v = sb at *
  have HKN := Kp.mk (heap_alloc_new w2 (.cells #[.int .i64 0, .int .i64 0] 34))
  have HBN := Kp.mk (show Below w2.heap.size w2 (w2.alloc (.cells #[.int .i64 0, .int .i64 0] 34)) from (Below.refl _ _).alloc (Nat.le_refl _) _)
  go_wp2_with fail
  go_loopw [7, 9] (fun ov i wr => ∃ (k : Nat) (okb : Bool) (t m : Int), k ≤ L.length ∧ i = .int .i64 k ∧ ov = .bool okb ∧ (okb = true → sb = true ∧ alFold (L.take k) (0, 0) = some (t, m)) ∧ (okb = false → sb = false ∨ alFold L (0, 0) = none) ∧
    wr.heap[w2.heap.size]? = some (.cells #[.int .i64 t, .int .i64 m] 34 (0, 0)) ∧ Below w2.heap.size w2 wr) (fun _ i _ => L.length - (intOf i).toNat)
  case atStart => exact ⟨0, sb, 0, 0, by omega, rfl, rfl, fun h => ⟨h, rfl⟩, fun h => .inl h, HKN.out, HBN.out⟩
  case round =>
    obtain ⟨k, okb, t, m, hk, rfl, rfl, hal, hno, hbx, hb⟩ := hrel
    have HAL := Kp.mk hal
    have HNO := Kp.mk hno
    have HBX := Kp.mk hbx
    have HB := Kp.mk hb
    have HBW := Kp.mk (HB2.out.trans (hb.mono HB2.out.size))
    have HKR := Kp.mk ((hb.block w.heap.size hz2).trans HK2.out)
    clear hal hno hbx hb HKN HBN
    cases okb
    · have HX := Kp.mk (show alR l = none by
        rw [HD.out]
        rcases HNO.out rfl with h | h
        · rw [h, if_neg (by simp)]
        · rw [h]; split <;> rfl)
      have c0 := blk_cell (i := 0) HKR.out rfl
      have c1 := blk_cell (i := 1) HKR.out rfl
      have f0 := blk_free (i := 0) HKR.out
      have f1 := blk_free (i := 1) HKR.out
      clear HD
      cases hi <;> by_cases hlt : k < L.length
      all_goals
        go_wp2_with fail
        have Z := blk_set (i := 1) (blk_set (i := 0) HKR.out (.int .i64 0)) (.int .i64 0)
        have z0 := blk_cell (i := 0) Z rfl
        have z1 := blk_cell (i := 1) Z rfl
        refine bodyPost_ret (v := alT none) (by simp [results, Try.results23, go_sem, z0, z1, Result.andThen, alT]) rfl ⟨by rw [HX.out], (HBW.out.setCell (Nat.le_refl _) _).setCell (Nat.le_refl _) _⟩
    · have HAL2 := Kp.mk (HAL.out rfl).2
      have HSB := Kp.mk (HAL.out rfl).1
      by_cases hlt : k < L.length
      · obtain ⟨g, o, rfl, hgl, d0⟩ := rds_cells (HR.out.below HB.out) (by omega)
        have c1 := d0 k hlt
        have m1 := HZ.out L[k] (List.getElem_mem hlt)
        have q0 : (0 : Int) ≤ (k : Int) := by omega
        have q1 : (k : Int) < (L.length : Int) := by omega
        have HST := Kp.mk (fun b => alFold_step (b := b) hlt HAL2.out)
        have HSP := Kp.mk (alFold_stop hlt HAL2.out)
        clear d0
        generalize L[k] = x at *
        go_wp2_with fail
        go_loopw [10] (fun av ws => ∃ j : Nat, j ≤ x.size ∧ av = .int .i64 j ∧ (∀ i, i < j → bt x i ≠ 61) ∧ ws = wr) (fun av _ => x.size - (intOf av).toNat)
        case atStart => exact ⟨0, by omega, rfl, fun i h => by omega, rfl⟩
        case round =>
          obtain ⟨j, hj, rfl, hne, rfl⟩ := hrel
          have HNE := Kp.mk hne
          clear hne
          have p0 : (0 : Int) ≤ (j : Int) := by omega
          by_cases hgo : j < x.size ∧ bt x j ≠ 61
          · obtain ⟨hjl, hjb⟩ := hgo
            have hbt := bt_at x j hjl
            have p1 : (j : Int) < (x.size : Int) := by omega
            have HNE2 := Kp.mk (show ∀ i, i < j + 1 → bt x i ≠ 61 from fun i h => by
              by_cases hij : i = j
              · subst hij; exact hjb
              · exact HNE.out i (by omega))
            generalize bt x j = bc at *
            have q61 : ((bc : Int) != 61) = true := by rw [bne_iff_ne]; omega
            have q62 : ((bc : Int) == 61) = false := by rw [beq_eq_false_iff_ne]; omega
            go_wp2_with fail
            go_roundw
            case rel => exact ⟨j + 1, by omega, by go_num, HNE2.out, by first | rfl | trivial⟩
            case measure => simp [intOf]; omega
          · have hej : j = x.size ∨ bt x j = 61 := by omega
            have heq : eqN x = j := upTo_of hj (fun i h => HNE.out i h) hej
            by_cases hjs : j = x.size
            · have HN := Kp.mk (HST.out _ (el_none (by rw [heq]; exact hjs)))
              have p1 : ¬ (j : Int) < (x.size : Int) := by omega
              have p2 : ((j : Int) == (x.size : Int)) = true := by rw [hjs]; simp
              clear hgo hej heq
              go_wp2_with fail
              go_roundw
              case rel => exact ⟨k + 1, true, t, m, by omega, by go_num, rfl, fun _ => ⟨HSB.out, HN.out⟩, (fun h => by cases h), HBX.out, HB.out⟩
              case measure => simp [intOf]; omega
            · have hjl : j < x.size := by omega
              have hb61 : bt x j = 61 := by omega
              have hbt := bt_at x j hjl
              rw [hb61] at hbt
              have p1 : (j : Int) < (x.size : Int) := by omega
              have p2 : ((j : Int) == (x.size : Int)) = false := by rw [beq_eq_false_iff_ne]; omega
              have hnq : eqN x ≠ x.size := by rw [heq]; exact hjs
              have HEO := Kp.mk (fun h1 h2 => el_other (x := x) (a := (t, m)) h1 h2)
              have HEB := Kp.mk (fun h1 h2 => el_bad (x := x) (a := (t, m)) hnq h1 h2)
              have HET := Kp.mk (fun h1 h2 => el_time (x := x) (a := (t, m)) hnq h1 h2)
              have HEM := Kp.mk (fun h0 h1 h2 => el_max (x := x) (a := (t, m)) hnq h0 h1 h2)
              have HTN := Kp.mk (show trimB (x.extract 0 j) = elN x by unfold elN; rw [heq])
              have HTV := Kp.mk (show trimB (x.extract (j + 1) x.size) = elV x by unfold elV; rw [heq])
              have htz : (elN x).size ≤ 100000 := by rw [← HTN.out]; have := trimB_sz (x.extract 0 j); simp at this; omega
              have hvz : (elV x).size ≤ 100000 := by rw [← HTV.out]; have := trimB_sz (x.extract (j + 1) x.size); simp at this; omega
              have hz1 : (x.extract 0 j).size ≤ 100000 := by simp; omega
              have hz3 : (x.extract (j + 1) x.size).size ≤ 100000 := by simp; omega
              have HFT := Kp.mk (fold_T (elN x))
              have HFM := Kp.mk (fold_M (elN x))
              have HLT := Kp.mk (fun (h : foldB (elN x) nmT = true) => show lowB (elN x) = nmT from ba_ext_l (by rw [fold_T] at h; exact eq_of_beq h))
              clear hgo hej heq hnq hb61
              go_wp2_with fail
              refine (ref_trim_any (x.extract 0 j) _ (by unfold maxLen; omega)).mono ?_
              rintro e w6 ⟨rfl, rfl⟩
              rw [HTN.out]
              go_wp2_with fail
              refine (ref_lower_any (elN x) _ (by omega)).mono ?_
              rintro e w7 ⟨rfl, hb7⟩
              have c7 := (hb7.cell (p := ⟨g, o + k, none⟩) hgl).trans c1
              have HB7 := Kp.mk hb7
              clear hb7 c1
              go_wp2_with fail
              refine (ref_trim_any (x.extract (j + 1) x.size) _ (by unfold maxLen; omega)).mono ?_
              rintro e w8 ⟨rfl, rfl⟩
              rw [HTV.out]
              go_wp2_with fail
              refine (ref_number_10_any (elV x) 1073741824 _ (by unfold maxLen; omega) (by omega) (by omega)).mono ?_
              rintro e w11 ⟨rfl, rfl⟩
              have HBX11 := Kp.mk ((HB7.out.block _ (blk_lt HBX.out)).trans HBX.out)
              have HB11W := Kp.mk (HB.out.trans (HB7.out.mono HB.out.size))
              have b0 := blk_cell (i := 0) HBX11.out rfl
              have b1 := blk_cell (i := 1) HBX11.out rfl
              have b2 := blk_free (i := 0) HBX11.out
              have b3 := blk_free (i := 1) HBX11.out
              generalize elN x = nm at *
              generalize elV x = vb at *
              generalize numE 10 vb 1073741824 = er at *
              generalize numV 10 vb 1073741824 = nv at *
              cases hft : foldB nm nmT
              · cases hfm : foldB nm nmM
                · have HN := Kp.mk (HST.out _ (HEO.out hft hfm))
                  have s1 := HFT.out.symm.trans hft
                  have s2 := HFM.out.symm.trans hfm
                  rw [tl_T] at s1
                  rw [tl_M] at s2
                  go_wp2_with fail
                  go_roundw
                  case rel => exact ⟨k + 1, true, t, m, by omega, by go_num, rfl, fun _ => ⟨HSB.out, HN.out⟩, (fun h => by cases h), HBX11.out, HB11W.out⟩
                  case measure => simp [intOf]; omega
                · have s1 := HFT.out.symm.trans hft
                  have s2 := HFM.out.symm.trans hfm
                  rw [tl_T] at s1
                  rw [tl_M] at s2
                  have HBD := Kp.mk (fun h2 => HSP.out (HEB.out (.inr hfm) h2))
                  have HGD := Kp.mk (fun h2 => HST.out _ (HEM.out hft hfm h2))
                  by_cases her : er = 0
                  · have HN := Kp.mk (HGD.out her)
                    have q9 : (er == 0) = true := by rw [her]; rfl
                    go_wp2_with fail
                    go_roundw
                    case rel => exact ⟨k + 1, true, t, nv, by omega, by go_num, rfl, fun _ => ⟨HSB.out, HN.out⟩, (fun h => by cases h), blk_set HBX11.out _, HB11W.out.setCell (Nat.le_refl _) _⟩
                    case measure => simp [intOf]; omega
                  · have HN := Kp.mk (HBD.out her)
                    have q9 : (er == 0) = false := by rw [beq_eq_false_iff_ne]; exact her
                    go_wp2_with fail
                    go_roundw
                    case rel => exact ⟨k + 1, false, t, nv, by omega, by go_num, rfl, (fun h => by cases h), fun _ => .inr HN.out, blk_set HBX11.out _, HB11W.out.setCell (Nat.le_refl _) _⟩
                    case measure => simp [intOf]; omega
              · have s1 : ((lowB nm).toList == [116, 105, 109, 101, 111, 117, 116]) = true := by rw [HLT.out hft, tl_T]; rfl
                have s2 : ((lowB nm).toList == [109, 97, 120]) = false := by rw [HLT.out hft, tl_T]; rfl
                have HBD := Kp.mk (fun h2 => HSP.out (HEB.out (.inl hft) h2))
                have HGD := Kp.mk (fun h2 => HST.out _ (HET.out hft h2))
                by_cases her : er = 0
                · have HN := Kp.mk (HGD.out her)
                  have q9 : (er == 0) = true := by rw [her]; rfl
                  go_wp2_with fail
                  go_roundw
                  case rel => exact ⟨k + 1, true, nv, m, by omega, by go_num, rfl, fun _ => ⟨HSB.out, HN.out⟩, (fun h => by cases h), blk_set HBX11.out _, HB11W.out.setCell (Nat.le_refl _) _⟩
                  case measure => simp [intOf]; omega
                · have HN := Kp.mk (HBD.out her)
                  have q9 : (er == 0) = false := by rw [beq_eq_false_iff_ne]; exact her
                  go_wp2_with fail
                  go_roundw
                  case rel => exact ⟨k + 1, false, nv, m, by omega, by go_num, rfl, (fun h => by cases h), fun _ => .inr HN.out, blk_set HBX11.out _, HB11W.out.setCell (Nat.le_refl _) _⟩
                  case measure => simp [intOf]; omega
      · have HE := Kp.mk (show alFold L (0, 0) = some (t, m) by have := HAL2.out; rwa [List.take_of_length_le (by omega)] at this)
        have q1 : ¬ (k : Int) < (L.length : Int) := by omega
        have c0 := blk_cell (i := 0) HKR.out rfl
        have c1 := blk_cell (i := 1) HKR.out rfl
        have f0 := blk_free (i := 0) HKR.out
        have f1 := blk_free (i := 1) HKR.out
        have e0 := blk_cell (i := 0) HBX.out rfl
        have e1 := blk_cell (i := 1) HBX.out rfl
        cases hhi : hi
        · have HXN := Kp.mk (show alR l = none by rw [HD.out, hhi]; rfl)
          go_wp2_with fail
          have Z := blk_set (i := 1) (blk_set (i := 0) HKR.out (.int .i64 0)) (.int .i64 0)
          have z0 := blk_cell (i := 0) Z rfl
          have z1 := blk_cell (i := 1) Z rfl
          refine bodyPost_ret (v := alT none) (by simp [results, Try.results23, go_sem, z0, z1, Result.andThen, alT]) rfl ⟨by rw [HXN.out], (HBW.out.setCell (Nat.le_refl _) _).setCell (Nat.le_refl _) _⟩
        · cases hsb : sb
          · have := HSB.out
            rw [hsb] at this
            cases this
          · have HXS := Kp.mk (show alR l = some (t, m) by rw [HD.out, hhi, hsb, if_pos ⟨rfl, rfl⟩]; exact HE.out)
            go_wp2_with fail
            have Z := blk_set (i := 1) (blk_set (i := 0) HKR.out (.int .i64 t)) (.int .i64 m)
            have z0 := blk_cell (i := 0) Z rfl
            have z1 := blk_cell (i := 1) Z rfl
            refine bodyPost_ret (v := alT (some (t, m))) (by simp [results, Try.results23, go_sem, z0, z1, Result.andThen, alT]) rfl ⟨by rw [HXS.out], (HBW.out.setCell (Nat.le_refl _) _).setCell (Nat.le_refl _) _⟩
end Go.Proofs.Ythlkflneldjnjaa
