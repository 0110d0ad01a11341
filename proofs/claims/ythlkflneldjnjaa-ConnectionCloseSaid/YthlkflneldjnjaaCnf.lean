/- Connections (layer 17): how long one is kept, the program's. -/
import Derived.Test.YthlkflneldjnjaaCnc
import Derived.Test.YthlkflneldjnjaaCnd
import Derived.Test.YthlkflneldjnjaaCte
import Derived.Test.YthlkflneldjnjaaTxt
namespace Go.Proofs.Ythlkflneldjnjaa
open Go.RowKit
set_option linter.unusedVariables false
set_option linter.unusedSimpArgs false

def alT : Option (Int × Int) → Value
  | none => .tuple #[.agg #[.int .i64 0, .int .i64 0], .bool false]
  | some a => .tuple #[.agg #[.int .i64 a.1, .int .i64 a.2], .bool true]
theorem sidx1_any (x : ByteArray) (w : World) (hx : x.size ≤ 100000000) : Calls Try.prog 100 #[.string x, .string ⟨#[61]⟩] w fun e w' => e = .returned (.int .i64 (ixB 61 x)) ∧ w = w' := by
  go_enter Try.func100, Try.ntmps100
  go_wp2_with fail
  refine (cutE_index x _ hx).mono ?_
  rintro e w1 ⟨rfl, rfl⟩
  go_wp2_with fail
  go_ret
  exact ⟨rfl, rfl⟩
theorem sctn_any (x : ByteArray) (b : Bool) (w : World) (hx : x.size ≤ 100000000) (hb : decide (0 ≤ ixB 61 x) = b) : Calls Try.prog 66 #[.string x, .string ⟨#[61]⟩] w fun e w' => e = .returned (.bool b) ∧ w = w' := by
  have HB := Kp.mk hb
  clear hb
  go_enter Try.func66, Try.ntmps66
  go_wp2_with fail
  refine (sidx1_any x _ hx).mono ?_
  rintro e w1 ⟨rfl, rfl⟩
  go_wp2_with fail
  go_ret
  exact ⟨by rw [← HB.out]; rfl, rfl⟩
theorem eqN_le (x : ByteArray) : eqN x ≤ x.size := by
  have := upTo_le 61 x.data.toList
  unfold eqN
  rwa [← ba_size'] at this
theorem trimB_sz (s : ByteArray) : (trimB s).size ≤ s.size := trimB_size s
theorem el_none {x : ByteArray} {a : Int × Int} (h : eqN x = x.size) : elStep x a = some a := by unfold elStep; rw [if_pos h]
theorem el_other {x : ByteArray} {a : Int × Int} (h1 : foldB (elN x) nmT = false) (h2 : foldB (elN x) nmM = false) : elStep x a = some a := by
  unfold elStep
  rw [h1, h2]
  split <;> rfl
theorem el_bad {x : ByteArray} {a : Int × Int} (h : eqN x ≠ x.size) (h1 : foldB (elN x) nmT = true ∨ foldB (elN x) nmM = true) (he : numE 10 (elV x) 1073741824 ≠ 0) : elStep x a = none := by
  unfold elStep
  rw [if_neg h, if_neg he, if_neg he]
  cases hh : foldB (elN x) nmT
  · rw [hh] at h1
    rcases h1 with h1 | h1
    · cases h1
    · rw [h1]; rfl
  · rfl
theorem el_time {x : ByteArray} {a : Int × Int} (h : eqN x ≠ x.size) (h1 : foldB (elN x) nmT = true) (he : numE 10 (elV x) 1073741824 = 0) : elStep x a = some (numV 10 (elV x) 1073741824, a.2) := by
  unfold elStep
  rw [if_neg h, h1, if_pos rfl, if_pos he]
theorem el_max {x : ByteArray} {a : Int × Int} (h : eqN x ≠ x.size) (h0 : foldB (elN x) nmT = false) (h1 : foldB (elN x) nmM = true) (he : numE 10 (elV x) 1073741824 = 0) : elStep x a = some (a.1, numV 10 (elV x) 1073741824) := by
  unfold elStep
  rw [if_neg h, h0, if_neg (by decide), h1, if_pos rfl, if_pos he]
def AlI (W : World) (B h : Nat) (L : List ByteArray) (k : Nat) (wr : World) : Prop :=
  ∃ t m : Int, alFold (L.take k) (0, 0) = some (t, m) ∧ wr.heap[B]? = some (.cells #[.int .i64 t, .int .i64 m] 34 (0, 0)) ∧ Below B W wr
set_option maxRecDepth 100000 in
set_option maxHeartbeats 4000000 in
theorem calive_any (vl : Value) (l : List Fld) (w : World) (hv : RdF w vl l) (hF : FewF l) :
    Calls Try.prog 22 #[vl] w fun e w' => e = .returned (alT (alR l)) ∧ Below w.heap.size w w' := by
  have hcz := hF.comb nmKeep
  have hln := splL_len (hJoin (hAll l nmKeep))
  have HZ := Kp.mk (fun x (h : x ∈ splL (hJoin (hAll l nmKeep))) => show x.size ≤ 100000 by have h1 := (splL_mem h).2; omega)
  have HD := Kp.mk (show alR l = if hIs l nmKeep = true ∧ splB (hJoin (hAll l nmKeep)) = true then alFold (splL (hJoin (hAll l nmKeep))) (0, 0) else none from rfl)
  have HV := Kp.mk hv
  have HS := Kp.mk hF.sm
  have hl5 := hF.len
  have HBA := Kp.mk ((Below.refl w.heap.size w).alloc (Nat.le_refl _) (.cells #[.int .i64 0, .int .i64 0] 34))
  have HKA := Kp.mk (heap_alloc_new w (.cells #[.int .i64 0, .int .i64 0] 34))
  clear hF hv
  go_enter Try.func22, Try.ntmps22
  go_wp2_with fail
  refine (hcomb_any vl l nmKeep _ (HV.out.below HBA.out) HS.out (by omega) (by decide)).mono ?_
  rintro e w1 ⟨rfl, hb1⟩
  have HB1 := Kp.mk (HBA.out.trans (hb1.mono HBA.out.size))
  have HK1 := Kp.mk ((hb1.block w.heap.size (blk_lt HKA.out)).trans HKA.out)
  clear hb1
  generalize hJoin (hAll l nmKeep) = v at *
  generalize hIs l nmKeep = hi at *
  go_wp2_with fail
  refine (split_any v _ (by omega)).mono ?_
  rintro e w2 ⟨u, rfl, ho, hb2⟩
  have HB2 := Kp.mk (HB1.out.trans (hb2.mono HB1.out.size))
  have HK2 := Kp.mk ((hb2.block w.heap.size (blk_lt HK1.out)).trans HK1.out)
  have HR := Kp.mk (rds_own ho)
  obtain ⟨a, c, rfl⟩ := own_lenH ho
  have hz2 := blk_lt HK2.out
  clear ho hb2
  have c0 := blk_cell (i := 0) HK2.out rfl
  have c1 := blk_cell (i := 1) HK2.out rfl
  have f0 := blk_free (i := 0) HK2.out
  have f1 := blk_free (i := 1) HK2.out
  cases hhi : hi
  · have HX := Kp.mk (show alR l = none by rw [HD.out, hhi]; rfl)
    go_wp2_with fail
    have Z := blk_set (i := 1) (blk_set (i := 0) HK2.out (.int .i64 0)) (.int .i64 0)
    have z0 := blk_cell (i := 0) Z rfl
    have z1 := blk_cell (i := 1) Z rfl
    refine bodyPost_ret (v := alT none) (by simp [results, Try.results22, go_sem, z0, z1, Result.andThen, alT]) rfl ⟨by rw [HX.out], (HB2.out.setCell (Nat.le_refl _) _).setCell (Nat.le_refl _) _⟩
  · cases hsb : splB v
    · have HX := Kp.mk (show alR l = none by rw [HD.out, hhi, hsb]; rfl)
      go_wp2_with fail
      have Z := blk_set (i := 1) (blk_set (i := 0) HK2.out (.int .i64 0)) (.int .i64 0)
      have z0 := blk_cell (i := 0) Z rfl
      have z1 := blk_cell (i := 1) Z rfl
      refine bodyPost_ret (v := alT none) (by simp [results, Try.results22, go_sem, z0, z1, Result.andThen, alT]) rfl ⟨by rw [HX.out], (HB2.out.setCell (Nat.le_refl _) _).setCell (Nat.le_refl _) _⟩
    · have HX := Kp.mk (show alR l = alFold (splL v) (0, 0) by rw [HD.out, hhi, hsb]; rfl)
      generalize splL v = L at *
      have HA0 := Kp.mk (show AlI w2 w2.heap.size w.heap.size L 0 (w2.alloc (.cells #[.int .i64 0, .int .i64 0] 34)) from ⟨0, 0, rfl, heap_alloc_new w2 _, (Below.refl _ _).alloc (Nat.le_refl _) _⟩)
      clear c0 c1 f0 f1
      go_wp2_with fail
      go_loopw [37] (fun i wr => ∃ k : Nat, k ≤ L.length ∧ i = .int .i64 k ∧ AlI w2 w2.heap.size w.heap.size L k wr) (fun i _ => L.length - (intOf i).toNat)
      case atStart => exact ⟨0, by omega, rfl, HA0.out⟩
      case round =>
        obtain ⟨k, hk, rfl, t, m, hal, hbx, hb⟩ := hrel
        have HAL := Kp.mk hal
        have HBX := Kp.mk hbx
        have HB := Kp.mk hb
        have HBW := Kp.mk (HB2.out.trans (hb.mono HB2.out.size))
        have HKR := Kp.mk ((hb.block w.heap.size hz2).trans HK2.out)
        clear hal hbx hb HA0
        by_cases hlt : k < L.length
        · obtain ⟨g, o, rfl, hgl, d0⟩ := rds_cells (HR.out.below HB.out) (by omega)
          have c1 := d0 k hlt
          have m1 := HZ.out L[k] (List.getElem_mem hlt)
          have q0 : (0 : Int) ≤ (k : Int) := by omega
          have q1 : (k : Int) < (L.length : Int) := by omega
          have HST := Kp.mk (fun b => alFold_step (b := b) hlt HAL.out)
          have HSP := Kp.mk (alFold_stop hlt HAL.out)
          clear d0
          generalize L[k] = x at *
          have hle := eqN_le x
          by_cases heq : eqN x = x.size
          · have HN := Kp.mk (HST.out _ (el_none heq))
            have HIX := Kp.mk (show decide (0 ≤ ixB 61 x) = false by rw [ixB_no heq]; rfl)
            go_wp2_with fail
            refine (cutE_no x _ (by omega) heq).mono ?_
            rintro e w5 ⟨rfl, n5, rfl⟩
            go_wp2_with fail
            refine (oct_trim_any x _ (by unfold maxLen; omega)).mono ?_
            rintro e w6 ⟨rfl, hb6⟩
            have htz := trimB_sz x
            have HB6 := Kp.mk ((gdrewN wr n5).trans (hb6.mono (Nat.le_refl _)))
            clear hb6
            generalize trimB x = nm at *
            go_wp2_with fail
            refine (oct_fold_any nm nmT _ (by omega) (by decide)).mono ?_
            rintro e w7 ⟨rfl, hb7⟩
            have HB7 := Kp.mk (HB6.out.trans (hb7.mono HB6.out.size))
            clear hb7
            go_wp2_with fail
            refine (oct_fold_any nm nmM _ (by omega) (by decide)).mono ?_
            rintro e w8 ⟨rfl, hb8⟩
            have HB8 := Kp.mk (HB7.out.trans (hb8.mono HB7.out.size))
            clear hb8
            go_wp2_with fail
            refine (sctn_any x false _ (by omega) HIX.out).mono ?_
            rintro e w9 ⟨rfl, rfl⟩
            go_wp2_with fail
            go_roundw
            case rel => exact ⟨k + 1, by omega, by go_num, t, m, HN.out, (HB8.out.block _ (blk_lt HBX.out)).trans HBX.out, HB.out.trans (HB8.out.mono HB.out.size)⟩
            case measure => simp [intOf]; omega
          · have hlt9 : eqN x < x.size := by omega
            have HIX := Kp.mk (show decide (0 ≤ ixB 61 x) = true by rw [ixB_yes (k := eqN x) rfl hlt9]; exact decide_eq_true (by omega))
            have HEO := Kp.mk (fun h1 h2 => el_other (x := x) (a := (t, m)) h1 h2)
            have HEB := Kp.mk (fun h1 h2 => el_bad (x := x) (a := (t, m)) heq h1 h2)
            have HET := Kp.mk (fun h1 h2 => el_time (x := x) (a := (t, m)) heq h1 h2)
            have HEM := Kp.mk (fun h0 h1 h2 => el_max (x := x) (a := (t, m)) heq h0 h1 h2)
            have htz : (elN x).size ≤ 100000 := by have := trimB_sz (x.extract 0 (eqN x)); unfold elN; simp at this; omega
            have hvz : (elV x).size ≤ 100000 := by have := trimB_sz (x.extract (eqN x + 1) x.size); unfold elV; simp at this; omega
            have HTN := Kp.mk (show trimB (x.extract 0 (eqN x)) = elN x from rfl)
            have HTV := Kp.mk (show trimB (x.extract (eqN x + 1) x.size) = elV x from rfl)
            have hz1 : (x.extract 0 (eqN x)).size ≤ 100000 := by simp; omega
            have hz3 : (x.extract (eqN x + 1) x.size).size ≤ 100000 := by simp; omega
            have HCY := Kp.mk (fun W => cutE_yes x (eqN x) W (by omega) rfl hlt9)
            generalize x.extract 0 (eqN x) = xa at *
            generalize x.extract (eqN x + 1) x.size = xb at *
            generalize elN x = nm at *
            generalize elV x = vb at *
            go_wp2_with fail
            refine (HCY.out _).mono ?_
            rintro e w5 ⟨rfl, n5, rfl⟩
            go_wp2_with fail
            refine (oct_trim_any xa _ (by unfold maxLen; omega)).mono ?_
            rintro e w6 ⟨rfl, hb6⟩
            rw [HTN.out]
            have HB6 := Kp.mk ((gdrewN wr n5).trans (hb6.mono (Nat.le_refl _)))
            clear hb6
            go_wp2_with fail
            refine (oct_fold_any nm nmT _ (by omega) (by decide)).mono ?_
            rintro e w7 ⟨rfl, hb7⟩
            have HB7 := Kp.mk (HB6.out.trans (hb7.mono HB6.out.size))
            clear hb7
            go_wp2_with fail
            refine (oct_fold_any nm nmM _ (by omega) (by decide)).mono ?_
            rintro e w8 ⟨rfl, hb8⟩
            have HB8 := Kp.mk (HB7.out.trans (hb8.mono HB7.out.size))
            clear hb8
            go_wp2_with fail
            refine (sctn_any x true _ (by omega) HIX.out).mono ?_
            rintro e w9 ⟨rfl, rfl⟩
            have HBX8 := Kp.mk ((HB8.out.block _ (blk_lt HBX.out)).trans HBX.out)
            have HB8W := Kp.mk (HB.out.trans (HB8.out.mono HB.out.size))
            generalize hft : foldB nm nmT = ft at *
            generalize hfm : foldB nm nmM = fm at *
            cases ft
            · cases fm
              · have HN := Kp.mk (HST.out _ (HEO.out rfl rfl))
                go_wp2_with fail
                go_roundw
                case rel => exact ⟨k + 1, by omega, by go_num, t, m, HN.out, HBX8.out, HB8W.out⟩
                case measure => simp [intOf]; omega
              · have HBD := Kp.mk (fun h2 => HSP.out (HEB.out (.inr rfl) h2))
                have HGD := Kp.mk (fun h2 => HST.out _ (HEM.out rfl rfl h2))
                go_wp2_with fail
                refine (oct_trim_any xb _ (by unfold maxLen; omega)).mono ?_
                rintro e w10 ⟨rfl, hb10⟩
                rw [HTV.out]
                have HB10 := Kp.mk (HB8.out.trans (hb10.mono HB8.out.size))
                clear hb10
                go_wp2_with fail
                refine (dec_any vb 1073741824 _ (by unfold maxLen; omega) (by omega) (by omega)).mono ?_
                rintro e w11 ⟨rfl, hb11⟩
                have HB11 := Kp.mk (HB10.out.trans (hb11.mono HB10.out.size))
                have HBX11 := Kp.mk ((HB11.out.block _ (blk_lt HBX.out)).trans HBX.out)
                have HB11W := Kp.mk (HB.out.trans (HB11.out.mono HB.out.size))
                clear hb11
                generalize numE 10 vb 1073741824 = er at *
                generalize numV 10 vb 1073741824 = nv at *
                by_cases her : er = 0
                · have HN := Kp.mk (HGD.out her)
                  have q9 : (er != 0) = false := by rw [her]; rfl
                  have g0 := blk_cell (i := 1) HBX11.out rfl
                  have g1 := blk_free (i := 1) HBX11.out
                  go_wp2_with fail
                  go_roundw
                  case rel => exact ⟨k + 1, by omega, by go_num, t, nv, HN.out, blk_set HBX11.out _, HB11W.out.setCell (Nat.le_refl _) _⟩
                  case measure => simp [intOf]; omega
                · have HN := Kp.mk (HBD.out her)
                  have q9 : (er != 0) = true := by rw [bne_iff_ne]; exact her
                  have HKZ := Kp.mk ((HB11W.out.block w.heap.size hz2).trans HK2.out)
                  have HZW := Kp.mk (HB2.out.trans (HB11W.out.mono HB2.out.size))
                  have c0 := blk_cell (i := 0) HKZ.out rfl
                  have c1 := blk_cell (i := 1) HKZ.out rfl
                  have f0 := blk_free (i := 0) HKZ.out
                  have f1 := blk_free (i := 1) HKZ.out
                  go_wp2_with fail
                  have Z := blk_set (i := 1) (blk_set (i := 0) HKZ.out (.int .i64 0)) (.int .i64 0)
                  have z0 := blk_cell (i := 0) Z rfl
                  have z1 := blk_cell (i := 1) Z rfl
                  refine bodyPost_ret (v := alT none) (by simp [results, Try.results22, go_sem, z0, z1, Result.andThen, alT]) rfl ⟨by rw [HX.out, HN.out], (HZW.out.setCell (Nat.le_refl _) _).setCell (Nat.le_refl _) _⟩
            · have HBD := Kp.mk (fun h2 => HSP.out (HEB.out (.inl rfl) h2))
              have HGD := Kp.mk (fun h2 => HST.out _ (HET.out rfl h2))
              go_wp2_with fail
              refine (oct_trim_any xb _ (by unfold maxLen; omega)).mono ?_
              rintro e w10 ⟨rfl, hb10⟩
              rw [HTV.out]
              have HB10 := Kp.mk (HB8.out.trans (hb10.mono HB8.out.size))
              clear hb10
              go_wp2_with fail
              refine (dec_any vb 1073741824 _ (by unfold maxLen; omega) (by omega) (by omega)).mono ?_
              rintro e w11 ⟨rfl, hb11⟩
              have HB11 := Kp.mk (HB10.out.trans (hb11.mono HB10.out.size))
              have HBX11 := Kp.mk ((HB11.out.block _ (blk_lt HBX.out)).trans HBX.out)
              have HB11W := Kp.mk (HB.out.trans (HB11.out.mono HB.out.size))
              clear hb11
              generalize numE 10 vb 1073741824 = er at *
              generalize numV 10 vb 1073741824 = nv at *
              by_cases her : er = 0
              · have HN := Kp.mk (HGD.out her)
                have q9 : (er != 0) = false := by rw [her]; rfl
                have g0 := blk_cell (i := 0) HBX11.out rfl
                have g1 := blk_free (i := 0) HBX11.out
                go_wp2_with fail
                go_roundw
                case rel => exact ⟨k + 1, by omega, by go_num, nv, m, HN.out, blk_set HBX11.out _, HB11W.out.setCell (Nat.le_refl _) _⟩
                case measure => simp [intOf]; omega
              · have HN := Kp.mk (HBD.out her)
                have q9 : (er != 0) = true := by rw [bne_iff_ne]; exact her
                have HKZ := Kp.mk ((HB11W.out.block w.heap.size hz2).trans HK2.out)
                have HZW := Kp.mk (HB2.out.trans (HB11W.out.mono HB2.out.size))
                have c0 := blk_cell (i := 0) HKZ.out rfl
                have c1 := blk_cell (i := 1) HKZ.out rfl
                have f0 := blk_free (i := 0) HKZ.out
                have f1 := blk_free (i := 1) HKZ.out
                go_wp2_with fail
                have Z := blk_set (i := 1) (blk_set (i := 0) HKZ.out (.int .i64 0)) (.int .i64 0)
                have z0 := blk_cell (i := 0) Z rfl
                have z1 := blk_cell (i := 1) Z rfl
                refine bodyPost_ret (v := alT none) (by simp [results, Try.results22, go_sem, z0, z1, Result.andThen, alT]) rfl ⟨by rw [HX.out, HN.out], (HZW.out.setCell (Nat.le_refl _) _).setCell (Nat.le_refl _) _⟩
        · have HE := Kp.mk (show alFold L (0, 0) = some (t, m) by have := HAL.out; rwa [List.take_of_length_le (by omega)] at this)
          have q1 : ¬ (k : Int) < (L.length : Int) := by omega
          have c0 := blk_cell (i := 0) HKR.out rfl
          have c1 := blk_cell (i := 1) HKR.out rfl
          have f0 := blk_free (i := 0) HKR.out
          have f1 := blk_free (i := 1) HKR.out
          have e0 := blk_cell (i := 0) HBX.out rfl
          have e1 := blk_cell (i := 1) HBX.out rfl
          go_wp2_with fail
          have Z := blk_set (i := 1) (blk_set (i := 0) HKR.out (.int .i64 t)) (.int .i64 m)
          have z0 := blk_cell (i := 0) Z rfl
          have z1 := blk_cell (i := 1) Z rfl
          refine bodyPost_ret (v := alT (some (t, m))) (by simp [results, Try.results22, go_sem, z0, z1, Result.andThen, alT]) rfl ⟨by rw [HX.out, HE.out], (HBW.out.setCell (Nat.le_refl _) _).setCell (Nat.le_refl _) _⟩
end Go.Proofs.Ythlkflneldjnjaa
