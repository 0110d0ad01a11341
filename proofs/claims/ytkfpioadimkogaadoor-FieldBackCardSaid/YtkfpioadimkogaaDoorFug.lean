/- Lines of fields (layer 9): fields come back from their lines: the law FieldBack. -/
import Derived.Test.YtkfpioadimkogaaDoorFuf
namespace Go.Proofs.YtkfpioadimkogaaDoor
open Go.RowKit
set_option linter.unusedVariables false
set_option linter.unusedSimpArgs false

theorem tok58 : ∀ n, n < 256 → tcharB n = true → n ≠ 58 := by decide +kernel
def lineR (v : ByteArray) : ByteArray := if v.size = 0 then ⟨#[]⟩ else ⟨#[32]⟩ ++ v
theorem fLine_list (n v : ByteArray) : (fLine n v).data.toList = n.data.toList ++ 58 :: (lineR v).data.toList := by
  unfold fLine lineR
  split
  · rw [cat_app] <;> rfl
  · rw [cat_app, cat_app, cat_app, List.append_assoc] <;> rfl
theorem lineR_trim (v : ByteArray) : trimB (lineR v) = trimB v := by
  unfold lineR
  split
  · rename_i h
    have : v = ⟨#[]⟩ := (ByteArray.size_eq_zero_iff.1 h).trans rfl
    rw [this]
  · unfold trimB
    rw [cat_app]
    show (⟨(trimL (32 :: v.data.toList)).toArray⟩ : ByteArray) = _
    unfold trimL
    rw [List.dropWhile_cons_of_pos (by decide)]
theorem lineR_all {v : ByteArray} (h : allB valueB v = true) : allB valueB (lineR v) = true := by
  unfold lineR
  split
  · rfl
  · unfold allB at *
    rw [cat_app, List.all_append, h]
    rfl
theorem fline_back {n v : ByteArray} (h : fRight n v = true) : fldE (fLine n v) = 0 ∧ fldN (fLine n v) = n ∧ fldV (fLine n v) = v := by
  unfold fRight at h
  rw [Bool.and_eq_true, Bool.and_eq_true, beq_iff_eq] at h
  obtain ⟨h1, h2, h3⟩ := h
  have hv : trimB v = v := ba_ext (by rw [← ByteArray.toList_eq, ← ByteArray.toList_eq]; exact h3)
  have hl := fLine_list n v
  have hne : ∀ c ∈ n.data.toList, c ≠ 58 := fun c hc e => by
    subst e
    unfold tokenB allB at h1
    rw [Bool.and_eq_true] at h1
    have := List.all_eq_true.1 h1.2 _ hc
    exact tok58 _ (by decide) this rfl
  have hsz : (fLine n v).size = n.size + (1 + (lineR v).size) := by rw [ba_size, hl, List.length_append, List.length_cons, ← ba_size, ← ba_size]; omega
  have hk : fldK (fLine n v) = n.size := by
    unfold fldK
    rw [hl]
    refine upTo_list 58 _ _ (by rw [List.length_append, ← ba_size]; omega) (fun j hj hlt => ?_) (.inr ⟨by rw [List.length_append, ← ba_size]; simp, ?_⟩)
    · rw [List.getElem_append_left (by rw [← ba_size]; exact hlt)]
      exact hne _ (List.getElem_mem _)
    · rw [List.getElem_append_right (by rw [ba_size]; exact Nat.le_refl _)]
      have e0 : n.size - n.data.toList.length = 0 := by have := ba_size n; omega
      simp only [e0, List.getElem_cons_zero]
  have e1 : (fLine n v).extract 0 n.size = n := ba_ext (by rw [ext0_list, hl, List.take_left' (by rw [← ba_size])])
  have e2 : (fLine n v).extract (n.size + 1) (fLine n v).size = lineR v := ba_ext (by
    rw [Lib.extract_to_end, hl, show n.data.toList ++ 58 :: (lineR v).data.toList = (n.data.toList ++ [58]) ++ (lineR v).data.toList by simp, List.drop_left' (by rw [List.length_append, ← ba_size]; rfl)])
  rcases fld_cases (fLine n v) with ⟨g, _⟩ | ⟨_, g, _⟩ | ⟨_, _, g, _⟩ | ⟨_, _, _, g1, g2, g3⟩
  · omega
  · rw [hk, e1, h1] at g; cases g
  · rw [hk, e2, lineR_all h2] at g; cases g
  · rw [hk, e1] at g2
    rw [hk, e2, lineR_trim, hv] at g3
    exact ⟨g1, g2, g3⟩
theorem trimB_all {P : Nat → Bool} {s : ByteArray} (h : allB P s = true) : allB P (trimB s) = true := by
  unfold allB at *
  rw [List.all_eq_true] at *
  intro c hc
  refine h c ?_
  unfold trimB trimL at hc
  have h1 : c ∈ (s.data.toList.dropWhile blankC).reverse.dropWhile blankC := List.mem_reverse.1 hc
  have h2 := (List.dropWhile_sublist blankC).mem h1
  exact (List.dropWhile_sublist blankC).mem (List.mem_reverse.1 h2)
theorem fread_right {s : ByteArray} (h : fldE s = 0) : fRight (fldN s) (fldV s) = true := by
  rcases fld_cases s with ⟨_, g, _⟩ | ⟨_, _, g, _⟩ | ⟨_, _, _, g, _⟩ | ⟨_, h1, h2, _, g2, g3⟩
  · rw [g] at h; cases h
  · rw [g] at h; cases h
  · rw [g] at h; cases h
  · rw [g2, g3]
    unfold fRight
    rw [h1, trimB_all h2, trimB_trimB]
    simp
theorem fread_none {s : ByteArray} (h : fldE s ≠ 0) : fldN s = ⟨#[]⟩ ∧ fldV s = ⟨#[]⟩ := by
  unfold fldN fldV
  rw [if_neg h, if_neg h]
  exact ⟨rfl, rfl⟩
theorem ufAt_plain {fold : Int} {L : List ByteArray} (h : ∀ s ∈ L, goesB s = false) : ∀ k, ufAt fold L k = some (L.take k)
  | 0 => rfl
  | k + 1 => by
    by_cases hk : k < L.length
    · rw [ufAt_step hk, ufAt_plain h k, ufS_new (h _ (List.getElem_mem hk)), List.take_succ_eq_append_getElem hk]
    · have e : ufAt fold L (k + 1) = ufAt fold L k := by
        unfold ufAt
        rw [List.take_of_length_le (by omega), List.take_of_length_le (by omega)]
      rw [e, ufAt_plain h k, List.take_of_length_le (by omega), List.take_of_length_le (by omega)]
theorem uf_plain {fold : Int} {L : List ByteArray} (h : ∀ s ∈ L, goesB s = false) : ufL fold L = L ∧ ufE fold L = 0 := by
  obtain ⟨a, b⟩ := uf_good (ufAt_plain (fold := fold) h L.length)
  rw [List.take_length] at a
  exact ⟨a, b⟩
theorem fLine_size (n v : ByteArray) : (fLine n v).size ≤ n.size + v.size + 2 := by
  unfold fLine
  split
  · rw [ByteArray.size_append]; have : (⟨#[58]⟩ : ByteArray).size = 1 := rfl; omega
  · rw [ByteArray.size_append, ByteArray.size_append]; have : (⟨#[58, 32]⟩ : ByteArray).size = 2 := rfl; omega
theorem ext0_le (s : ByteArray) (n : Nat) : (s.extract 0 n).size ≤ n := by rw [ByteArray.size_extract]; omega
/-- What reading a line says. -/
theorem fread_ways (s : ByteArray) : (fldE s = 0 ∧ fRight (fldN s) (fldV s) = true) ∨ (fldE s ≠ 0 ∧ fldN s = ⟨#[]⟩ ∧ fldV s = ⟨#[]⟩) := by
  by_cases h : fldE s = 0
  · exact .inl ⟨h, fread_right h⟩
  · exact .inr ⟨h, fread_none h⟩
/-- What stands behind the two tests: the lines. -/
def BackT (w : World) (e : Ending) (w' : World) : Prop := e = .returned (.bool true) ∧ Below w.heap.size w w'
set_option maxRecDepth 100000 in
set_option maxHeartbeats 16000000 in
theorem fback_walk (n x line0 : ByteArray) (v : Value) (L : List ByteArray) (w : World) (hn : n.size ≤ maxLen) (hx : x.size ≤ maxLen) (hs : line0.size ≤ maxLen) (hv : RdS w v L) (hz : ∀ s ∈ L, s.size ≤ maxLen) :
    Calls Tryd.prog 7 #[.agg #[.string n, .string x], .string line0, v] w (BackT w) := by
  unfold maxLen at hn hx hs
  have HV := Kp.mk hv
  have HF1 := Kp.mk (fun w hv => few9_any v L w hv hz)
  have HX0 := Kp.mk (ext0_le line0 1000)
  clear hz
  obtain ⟨ad, cap, rfl, -, -, -⟩ := hv
  have BX := Kp.mk (blk_lt (heap_alloc_new w (.cells #[.string n, .string x] 59)))
  have BK := Kp.mk (heap_alloc_new w (.cells #[.string n, .string x] 59))
  have B0 := Kp.mk ((Below.refl w.heap.size w).alloc (Nat.le_refl _) (.cells #[.string n, .string x] 59))
  go_enter Tryd.func7, Tryd.ntmps7
  go_upto_region 1 with fail
  go_cut [1] (fun u1 wx => ∃ line : ByteArray, u1 = .string line ∧ line.size ≤ 1000 ∧ wx = w.alloc (.cells #[.string n, .string x] 59))
  case first =>
    by_cases hq : line0.size ≤ 1000
    · have q1 : ¬ (1000 : Int) < (line0.size : Int) := by omega
      go_wp2_with fail
      go_meet
      refine ⟨_, rfl, ?_, rfl⟩
      first | omega | (simp; omega) | (rw [ByteArray.size_extract]; omega)
    · have q1 : (1000 : Int) < (line0.size : Int) := by omega
      go_wp2_with fail
      go_meet
      refine ⟨_, rfl, ?_, rfl⟩
      first | exact HX0.out | omega | (simp; omega) | (rw [ByteArray.size_extract]; omega)
  case rest =>
    obtain ⟨line, rfl, hls, rfl⟩ := hcut
    clear HX0 hs
    have b0 := blk_cell (i := 0) BK.out rfl
    have b1 := blk_cell (i := 1) BK.out rfl
    have HF2 := Kp.mk (HF1.out _ (HV.out.below B0.out))
    cases hfl : fewS L
    · rw [hfl] at HF2
      clear hfl
      go_wp2_with fail
      refine HF2.out.mono ?_
      rintro e w1 ⟨rfl, hb⟩
      have HB1 := Kp.mk (B0.out.trans (hb.mono B0.out.size))
      clear hb
      go_wp2_with fail
      refine (lives9_any _).mono ?_
      rintro e w90 ⟨rfl, hb90⟩
      have HB90 := Kp.mk (HB1.out.trans (hb90.mono HB1.out.size))
      clear hb90
      go_wp2_with fail
      go_ret
      exact ⟨rfl, HB90.out⟩
    · rw [hfl] at HF2
      obtain ⟨hl, hsm⟩ := fewS_out hfl
      have HSM := Kp.mk hsm
      have HU0 := Kp.mk (fun w hv => show Calls Tryd.prog 27 #[.int .i64 0, .slice ad L.length cap] w (RetU 0 L w) from unfold_any 0 (.slice ad L.length cap) L w hv (by omega) (fun s hs => by have := hsm s hs; omega))
      have HU1 := Kp.mk (fun w hv => show Calls Tryd.prog 27 #[.int .i64 1, .slice ad L.length cap] w (RetU 1 L w) from unfold_any 1 (.slice ad L.length cap) L w hv (by omega) (fun s hs => by have := hsm s hs; omega))
      unfold RetU at HU0 HU1
      clear hfl hsm
      go_wp2_with fail
      refine HF2.out.mono ?_
      rintro e w1 ⟨rfl, hb⟩
      have K1 := Kp.mk ((hb.block w.heap.size BX.out).trans BK.out)
      replace B0 := Kp.mk (B0.out.trans (hb.mono B0.out.size))
      have d0 := blk_cell (i := 0) K1.out rfl
      have d1 := blk_cell (i := 1) K1.out rfl
      have hlt1 := blk_lt K1.out
      clear hb b0 b1 HF2 HF1
      by_cases g1 : n.size ≤ 300
      · have q1 : ¬ (300 : Int) < (n.size : Int) := by omega
        by_cases g2 : x.size ≤ 1000
        · have q2 : ¬ (1000 : Int) < (x.size : Int) := by omega
          have LN := Kp.mk (fun w => fline_any n x w (by omega) (by omega))
          have hz3 := fLine_size n x
          have PF := Kp.mk (fun w => fparse_any (fLine n x) w (by omega))
          have RF := Kp.mk (fun w => fright_any n x w (by omega) (by omega))
          have PL := Kp.mk (fun w => fparse_any line w (by omega))
          have hz4 : (fldN line).size ≤ 100000 ∧ (fldV line).size ≤ 100000 := by
            unfold fldN fldV
            have z1 := ext_size line 0 (fldK line)
            have z2 := ext_size line (fldK line + 1) line.size
            have z3 := trimB_size (line.extract (fldK line + 1) line.size)
            have z4 : (⟨#[]⟩ : ByteArray).size = 0 := rfl
            constructor
            · split <;> omega
            · split <;> omega
          have HWY := Kp.mk (fread_ways line)
          unfold FldRet at PF PL
          obtain ⟨hz4, hz5⟩ := hz4
          cases hr : fRight n x
          · rw [hr] at RF
            clear hr
            generalize fLine n x = fl at *
            generalize fldN fl = pn at *
            generalize fldV fl = pv at *
            generalize fldE fl = pe at *
            go_wp2_with fail
            refine (LN.out _).mono ?_
            rintro e w2 ⟨rfl, hb⟩
            have K2 := Kp.mk ((hb.block w.heap.size hlt1).trans K1.out)
            replace B0 := Kp.mk (B0.out.trans (hb.mono B0.out.size))
            have hlt2 := blk_lt K2.out
            clear hb d0 d1
            go_wp2_with fail
            refine (PF.out _).mono ?_
            rintro e w3 ⟨rfl, hb⟩
            have K3 := Kp.mk (blk_alloc (o2 := .cells #[.string pn, .string pv] 59) ((hb.block w.heap.size hlt2).trans K2.out))
            replace B0 := Kp.mk ((B0.out.trans (hb.mono B0.out.size)).alloc (by have := B0.out.size; have := hb.size; omega) (.cells #[.string pn, .string pv] 59))
            have e0 := blk_cell (i := 0) K3.out rfl
            have e1 := blk_cell (i := 1) K3.out rfl
            clear hb
            go_wp2_with fail
            refine (RF.out _).mono ?_
            rintro e w4 ⟨rfl, hb⟩
            replace B0 := Kp.mk (B0.out.trans (hb.mono B0.out.size))
            clear hb e0 e1
            rcases HWY.out with ⟨y1, y2⟩ | ⟨y1, y2, y3⟩
            · have FR := Kp.mk (fun w => fright_any (fldN line) (fldV line) w (by omega) (by omega))
              rw [y1] at PL
              rw [y2] at FR
              generalize fldN line = ln at *
              generalize fldV line = lv at *
              clear y1 y2 HWY
              go_wp2_with fail
              refine (PL.out _).mono ?_
              rintro e w3 ⟨rfl, hb⟩
              have B1 := Kp.mk ((B0.out.trans (hb.mono B0.out.size)).alloc (by have := B0.out.size; have := hb.size; omega) (.cells #[.string ln, .string lv] 59))
              clear hb
              go_wp2_with fail
              refine (FR.out _).mono ?_
              rintro e w4 ⟨rfl, hb⟩
              have B2 := Kp.mk (B1.out.trans (hb.mono B1.out.size))
              clear hb
              go_wp2_with fail
              go_loopw [78] (fun iv wr => ∃ k : Nat, k ≤ L.length ∧ iv = .int .i64 k ∧ (∀ y ∈ L.take k, goesB y = false) ∧ Below w.heap.size w wr) (fun iv _ => L.length - (intOf iv).toNat)
              case atStart => exact ⟨0, by omega, rfl, by simp, B2.out⟩
              case round =>
                obtain ⟨k, hk, rfl, hg, hb⟩ := hrel
                have HG := Kp.mk hg
                have B3 := Kp.mk hb
                clear hg hb
                by_cases hlt : k < L.length
                · obtain ⟨g, o, rfl, hgl, dd⟩ := rds_cells (HV.out.below B3.out) (by omega)
                  have c1 := dd k hlt
                  have m1 := HSM.out L[k] (List.getElem_mem hlt)
                  have q0 : (0 : Int) ≤ (k : Int) := by omega
                  have q1 : (k : Int) < (L.length : Int) := by omega
                  have HTK := Kp.mk (List.take_succ_eq_append_getElem hlt)
                  clear dd
                  generalize L[k] = s at *
                  have GO := Kp.mk (fun w => rgoes_any s w (by omega))
                  cases hgs : goesB s
                  · rw [hgs] at GO
                    have HGS := Kp.mk hgs
                    clear hgs
                    go_wp2_with fail
                    refine (GO.out _).mono ?_
                    rintro e w2 ⟨rfl, rfl⟩
                    go_wp2_with fail
                    go_roundw
                    case rel =>
                      refine ⟨k + 1, by omega, by go_num, fun y hy => ?_, B3.out⟩
                      rw [HTK.out] at hy
                      rcases List.mem_append.1 hy with hy | hy
                      · exact HG.out y hy
                      · simp at hy; subst hy; exact HGS.out
                    case measure => simp [intOf]; omega
                  · rw [hgs] at GO
                    clear hgs
                    go_wp2_with fail
                    refine (GO.out _).mono ?_
                    rintro e w2 ⟨rfl, rfl⟩
                    go_wp2_with fail
                    refine (lives9_any _).mono ?_
                    rintro e w90 ⟨rfl, hb90⟩
                    have HB90 := Kp.mk (B3.out.trans (hb90.mono B3.out.size))
                    clear hb90
                    go_wp2_with fail
                    go_ret
                    exact ⟨rfl, HB90.out⟩
                · have hall : ∀ y ∈ L, goesB y = false := by have := HG.out; rwa [List.take_of_length_le (by omega)] at this
                  obtain ⟨p1, p2⟩ := uf_plain (fold := 0) hall
                  obtain ⟨p3, p4⟩ := uf_plain (fold := 1) hall
                  have U0 := Kp.mk (HU0.out _ (HV.out.below B3.out))
                  have U1 := Kp.mk (HU1.out)
                  rw [p1, p2] at U0
                  rw [p3, p4] at U1
                  clear p1 p2 p3 p4 hall
                  go_wp2_with fail
                  refine U0.out.mono ?_
                  rintro e w4 ⟨u1, rfl, ho, hb⟩
                  have B4 := Kp.mk (B3.out.trans (hb.mono B3.out.size))
                  have R1 := Kp.mk (rds_own ho)
                  obtain ⟨a1, c1, rfl⟩ := own_lenH ho
                  clear ho hb
                  go_wp2_with fail
                  refine (U1.out _ (HV.out.below B4.out)).mono ?_
                  rintro e w5 ⟨u2, rfl, ho, hb⟩
                  have B5 := Kp.mk (B4.out.trans (hb.mono B4.out.size))
                  have R2 := Kp.mk (rds_own ho)
                  replace R1 := Kp.mk (R1.out.below hb)
                  obtain ⟨a2, c2, rfl⟩ := own_lenH ho
                  clear ho hb
                  go_wp2_with fail
                  refine (rssame_any _ _ L L _ R1.out (HV.out.below B5.out) (by omega) (by omega)).mono ?_
                  rintro e w6 ⟨rfl, hb⟩
                  rw [sameL_self]
                  have B6 := Kp.mk (B5.out.trans (hb.mono B5.out.size))
                  replace R2 := Kp.mk (R2.out.below hb)
                  clear hb
                  go_wp2_with fail
                  refine (rssame_any _ _ L L _ R2.out (HV.out.below B6.out) (by omega) (by omega)).mono ?_
                  rintro e w7 ⟨rfl, hb⟩
                  rw [sameL_self]
                  have B7 := Kp.mk (B6.out.trans (hb.mono B6.out.size))
                  clear hb
                  go_wp2_with fail
                  refine (lives9_any _).mono ?_
                  rintro e w90 ⟨rfl, hb90⟩
                  have HB90 := Kp.mk (B7.out.trans (hb90.mono B7.out.size))
                  clear hb90
                  go_wp2_with fail
                  go_ret
                  exact ⟨rfl, HB90.out⟩
            · rw [y2, y3] at PL
              generalize fldE line = le at *
              have yb : (le == 0) = false := beq_eq_false_iff_ne.2 y1
              have yc : (le != 0) = true := by rw [bne_iff_ne]; exact y1
              clear y1 y2 y3 HWY
              go_wp2_with fail
              refine (PL.out _).mono ?_
              rintro e w3 ⟨rfl, hb⟩
              have B2 := Kp.mk ((B0.out.trans (hb.mono B0.out.size)).alloc (by have := B0.out.size; have := hb.size; omega) (.cells #[.string ⟨#[]⟩, .string ⟨#[]⟩] 59))
              clear hb
              go_wp2_with fail
              go_loopw [78] (fun iv wr => ∃ k : Nat, k ≤ L.length ∧ iv = .int .i64 k ∧ (∀ y ∈ L.take k, goesB y = false) ∧ Below w.heap.size w wr) (fun iv _ => L.length - (intOf iv).toNat)
              case atStart => exact ⟨0, by omega, rfl, by simp, B2.out⟩
              case round =>
                obtain ⟨k, hk, rfl, hg, hb⟩ := hrel
                have HG := Kp.mk hg
                have B3 := Kp.mk hb
                clear hg hb
                by_cases hlt : k < L.length
                · obtain ⟨g, o, rfl, hgl, dd⟩ := rds_cells (HV.out.below B3.out) (by omega)
                  have c1 := dd k hlt
                  have m1 := HSM.out L[k] (List.getElem_mem hlt)
                  have q0 : (0 : Int) ≤ (k : Int) := by omega
                  have q1 : (k : Int) < (L.length : Int) := by omega
                  have HTK := Kp.mk (List.take_succ_eq_append_getElem hlt)
                  clear dd
                  generalize L[k] = s at *
                  have GO := Kp.mk (fun w => rgoes_any s w (by omega))
                  cases hgs : goesB s
                  · rw [hgs] at GO
                    have HGS := Kp.mk hgs
                    clear hgs
                    go_wp2_with fail
                    refine (GO.out _).mono ?_
                    rintro e w2 ⟨rfl, rfl⟩
                    go_wp2_with fail
                    go_roundw
                    case rel =>
                      refine ⟨k + 1, by omega, by go_num, fun y hy => ?_, B3.out⟩
                      rw [HTK.out] at hy
                      rcases List.mem_append.1 hy with hy | hy
                      · exact HG.out y hy
                      · simp at hy; subst hy; exact HGS.out
                    case measure => simp [intOf]; omega
                  · rw [hgs] at GO
                    clear hgs
                    go_wp2_with fail
                    refine (GO.out _).mono ?_
                    rintro e w2 ⟨rfl, rfl⟩
                    go_wp2_with fail
                    refine (lives9_any _).mono ?_
                    rintro e w90 ⟨rfl, hb90⟩
                    have HB90 := Kp.mk (B3.out.trans (hb90.mono B3.out.size))
                    clear hb90
                    go_wp2_with fail
                    go_ret
                    exact ⟨rfl, HB90.out⟩
                · have hall : ∀ y ∈ L, goesB y = false := by have := HG.out; rwa [List.take_of_length_le (by omega)] at this
                  obtain ⟨p1, p2⟩ := uf_plain (fold := 0) hall
                  obtain ⟨p3, p4⟩ := uf_plain (fold := 1) hall
                  have U0 := Kp.mk (HU0.out _ (HV.out.below B3.out))
                  have U1 := Kp.mk (HU1.out)
                  rw [p1, p2] at U0
                  rw [p3, p4] at U1
                  clear p1 p2 p3 p4 hall
                  go_wp2_with fail
                  refine U0.out.mono ?_
                  rintro e w4 ⟨u1, rfl, ho, hb⟩
                  have B4 := Kp.mk (B3.out.trans (hb.mono B3.out.size))
                  have R1 := Kp.mk (rds_own ho)
                  obtain ⟨a1, c1, rfl⟩ := own_lenH ho
                  clear ho hb
                  go_wp2_with fail
                  refine (U1.out _ (HV.out.below B4.out)).mono ?_
                  rintro e w5 ⟨u2, rfl, ho, hb⟩
                  have B5 := Kp.mk (B4.out.trans (hb.mono B4.out.size))
                  have R2 := Kp.mk (rds_own ho)
                  replace R1 := Kp.mk (R1.out.below hb)
                  obtain ⟨a2, c2, rfl⟩ := own_lenH ho
                  clear ho hb
                  go_wp2_with fail
                  refine (rssame_any _ _ L L _ R1.out (HV.out.below B5.out) (by omega) (by omega)).mono ?_
                  rintro e w6 ⟨rfl, hb⟩
                  rw [sameL_self]
                  have B6 := Kp.mk (B5.out.trans (hb.mono B5.out.size))
                  replace R2 := Kp.mk (R2.out.below hb)
                  clear hb
                  go_wp2_with fail
                  refine (rssame_any _ _ L L _ R2.out (HV.out.below B6.out) (by omega) (by omega)).mono ?_
                  rintro e w7 ⟨rfl, hb⟩
                  rw [sameL_self]
                  have B7 := Kp.mk (B6.out.trans (hb.mono B6.out.size))
                  clear hb
                  go_wp2_with fail
                  refine (lives9_any _).mono ?_
                  rintro e w90 ⟨rfl, hb90⟩
                  have HB90 := Kp.mk (B7.out.trans (hb90.mono B7.out.size))
                  clear hb90
                  go_wp2_with fail
                  go_ret
                  exact ⟨rfl, HB90.out⟩
          · obtain ⟨r1, r2, r3⟩ := fline_back hr
            rw [hr] at RF
            rw [r1, r2, r3] at PF
            clear hr r1 r2 r3
            generalize fLine n x = fl at *
            go_wp2_with fail
            refine (LN.out _).mono ?_
            rintro e w2 ⟨rfl, hb⟩
            have K2 := Kp.mk ((hb.block w.heap.size hlt1).trans K1.out)
            replace B0 := Kp.mk (B0.out.trans (hb.mono B0.out.size))
            have hlt2 := blk_lt K2.out
            clear hb d0 d1
            go_wp2_with fail
            refine (PF.out _).mono ?_
            rintro e w3 ⟨rfl, hb⟩
            have K3 := Kp.mk (blk_alloc (o2 := .cells #[.string n, .string x] 59) ((hb.block w.heap.size hlt2).trans K2.out))
            have K4 := Kp.mk (heap_alloc_new w3 (.cells #[.string n, .string x] 59))
            replace B0 := Kp.mk ((B0.out.trans (hb.mono B0.out.size)).alloc (by have := B0.out.size; have := hb.size; omega) (.cells #[.string n, .string x] 59))
            have e0 := blk_cell (i := 0) K3.out rfl
            have e1 := blk_cell (i := 1) K3.out rfl
            have hlt3 := blk_lt K3.out
            have hlt4 := blk_lt K4.out
            clear hb
            go_wp2_with fail
            refine (RF.out _).mono ?_
            rintro e w4 ⟨rfl, hb⟩
            have f0 := blk_cell (i := 0) ((hb.block w.heap.size hlt3).trans K3.out) rfl
            have f1 := blk_cell (i := 1) ((hb.block w.heap.size hlt3).trans K3.out) rfl
            have f2 := blk_cell (i := 0) ((hb.block w3.heap.size hlt4).trans K4.out) rfl
            have f3 := blk_cell (i := 1) ((hb.block w3.heap.size hlt4).trans K4.out) rfl
            replace B0 := Kp.mk (B0.out.trans (hb.mono B0.out.size))
            clear hb e0 e1
            rcases HWY.out with ⟨y1, y2⟩ | ⟨y1, y2, y3⟩
            · have FR := Kp.mk (fun w => fright_any (fldN line) (fldV line) w (by omega) (by omega))
              rw [y1] at PL
              rw [y2] at FR
              generalize fldN line = ln at *
              generalize fldV line = lv at *
              clear y1 y2 HWY
              go_wp2_with fail
              refine (PL.out _).mono ?_
              rintro e w3 ⟨rfl, hb⟩
              have B1 := Kp.mk ((B0.out.trans (hb.mono B0.out.size)).alloc (by have := B0.out.size; have := hb.size; omega) (.cells #[.string ln, .string lv] 59))
              clear hb
              go_wp2_with fail
              refine (FR.out _).mono ?_
              rintro e w4 ⟨rfl, hb⟩
              have B2 := Kp.mk (B1.out.trans (hb.mono B1.out.size))
              clear hb
              go_wp2_with fail
              go_loopw [78] (fun iv wr => ∃ k : Nat, k ≤ L.length ∧ iv = .int .i64 k ∧ (∀ y ∈ L.take k, goesB y = false) ∧ Below w.heap.size w wr) (fun iv _ => L.length - (intOf iv).toNat)
              case atStart => exact ⟨0, by omega, rfl, by simp, B2.out⟩
              case round =>
                obtain ⟨k, hk, rfl, hg, hb⟩ := hrel
                have HG := Kp.mk hg
                have B3 := Kp.mk hb
                clear hg hb
                by_cases hlt : k < L.length
                · obtain ⟨g, o, rfl, hgl, dd⟩ := rds_cells (HV.out.below B3.out) (by omega)
                  have c1 := dd k hlt
                  have m1 := HSM.out L[k] (List.getElem_mem hlt)
                  have q0 : (0 : Int) ≤ (k : Int) := by omega
                  have q1 : (k : Int) < (L.length : Int) := by omega
                  have HTK := Kp.mk (List.take_succ_eq_append_getElem hlt)
                  clear dd
                  generalize L[k] = s at *
                  have GO := Kp.mk (fun w => rgoes_any s w (by omega))
                  cases hgs : goesB s
                  · rw [hgs] at GO
                    have HGS := Kp.mk hgs
                    clear hgs
                    go_wp2_with fail
                    refine (GO.out _).mono ?_
                    rintro e w2 ⟨rfl, rfl⟩
                    go_wp2_with fail
                    go_roundw
                    case rel =>
                      refine ⟨k + 1, by omega, by go_num, fun y hy => ?_, B3.out⟩
                      rw [HTK.out] at hy
                      rcases List.mem_append.1 hy with hy | hy
                      · exact HG.out y hy
                      · simp at hy; subst hy; exact HGS.out
                    case measure => simp [intOf]; omega
                  · rw [hgs] at GO
                    clear hgs
                    go_wp2_with fail
                    refine (GO.out _).mono ?_
                    rintro e w2 ⟨rfl, rfl⟩
                    go_wp2_with fail
                    refine (lives9_any _).mono ?_
                    rintro e w90 ⟨rfl, hb90⟩
                    have HB90 := Kp.mk (B3.out.trans (hb90.mono B3.out.size))
                    clear hb90
                    go_wp2_with fail
                    go_ret
                    exact ⟨rfl, HB90.out⟩
                · have hall : ∀ y ∈ L, goesB y = false := by have := HG.out; rwa [List.take_of_length_le (by omega)] at this
                  obtain ⟨p1, p2⟩ := uf_plain (fold := 0) hall
                  obtain ⟨p3, p4⟩ := uf_plain (fold := 1) hall
                  have U0 := Kp.mk (HU0.out _ (HV.out.below B3.out))
                  have U1 := Kp.mk (HU1.out)
                  rw [p1, p2] at U0
                  rw [p3, p4] at U1
                  clear p1 p2 p3 p4 hall
                  go_wp2_with fail
                  refine U0.out.mono ?_
                  rintro e w4 ⟨u1, rfl, ho, hb⟩
                  have B4 := Kp.mk (B3.out.trans (hb.mono B3.out.size))
                  have R1 := Kp.mk (rds_own ho)
                  obtain ⟨a1, c1, rfl⟩ := own_lenH ho
                  clear ho hb
                  go_wp2_with fail
                  refine (U1.out _ (HV.out.below B4.out)).mono ?_
                  rintro e w5 ⟨u2, rfl, ho, hb⟩
                  have B5 := Kp.mk (B4.out.trans (hb.mono B4.out.size))
                  have R2 := Kp.mk (rds_own ho)
                  replace R1 := Kp.mk (R1.out.below hb)
                  obtain ⟨a2, c2, rfl⟩ := own_lenH ho
                  clear ho hb
                  go_wp2_with fail
                  refine (rssame_any _ _ L L _ R1.out (HV.out.below B5.out) (by omega) (by omega)).mono ?_
                  rintro e w6 ⟨rfl, hb⟩
                  rw [sameL_self]
                  have B6 := Kp.mk (B5.out.trans (hb.mono B5.out.size))
                  replace R2 := Kp.mk (R2.out.below hb)
                  clear hb
                  go_wp2_with fail
                  refine (rssame_any _ _ L L _ R2.out (HV.out.below B6.out) (by omega) (by omega)).mono ?_
                  rintro e w7 ⟨rfl, hb⟩
                  rw [sameL_self]
                  have B7 := Kp.mk (B6.out.trans (hb.mono B6.out.size))
                  clear hb
                  go_wp2_with fail
                  refine (lives9_any _).mono ?_
                  rintro e w90 ⟨rfl, hb90⟩
                  have HB90 := Kp.mk (B7.out.trans (hb90.mono B7.out.size))
                  clear hb90
                  go_wp2_with fail
                  go_ret
                  exact ⟨rfl, HB90.out⟩
            · rw [y2, y3] at PL
              generalize fldE line = le at *
              have yb : (le == 0) = false := beq_eq_false_iff_ne.2 y1
              have yc : (le != 0) = true := by rw [bne_iff_ne]; exact y1
              clear y1 y2 y3 HWY
              go_wp2_with fail
              refine (PL.out _).mono ?_
              rintro e w3 ⟨rfl, hb⟩
              have B2 := Kp.mk ((B0.out.trans (hb.mono B0.out.size)).alloc (by have := B0.out.size; have := hb.size; omega) (.cells #[.string ⟨#[]⟩, .string ⟨#[]⟩] 59))
              clear hb
              go_wp2_with fail
              go_loopw [78] (fun iv wr => ∃ k : Nat, k ≤ L.length ∧ iv = .int .i64 k ∧ (∀ y ∈ L.take k, goesB y = false) ∧ Below w.heap.size w wr) (fun iv _ => L.length - (intOf iv).toNat)
              case atStart => exact ⟨0, by omega, rfl, by simp, B2.out⟩
              case round =>
                obtain ⟨k, hk, rfl, hg, hb⟩ := hrel
                have HG := Kp.mk hg
                have B3 := Kp.mk hb
                clear hg hb
                by_cases hlt : k < L.length
                · obtain ⟨g, o, rfl, hgl, dd⟩ := rds_cells (HV.out.below B3.out) (by omega)
                  have c1 := dd k hlt
                  have m1 := HSM.out L[k] (List.getElem_mem hlt)
                  have q0 : (0 : Int) ≤ (k : Int) := by omega
                  have q1 : (k : Int) < (L.length : Int) := by omega
                  have HTK := Kp.mk (List.take_succ_eq_append_getElem hlt)
                  clear dd
                  generalize L[k] = s at *
                  have GO := Kp.mk (fun w => rgoes_any s w (by omega))
                  cases hgs : goesB s
                  · rw [hgs] at GO
                    have HGS := Kp.mk hgs
                    clear hgs
                    go_wp2_with fail
                    refine (GO.out _).mono ?_
                    rintro e w2 ⟨rfl, rfl⟩
                    go_wp2_with fail
                    go_roundw
                    case rel =>
                      refine ⟨k + 1, by omega, by go_num, fun y hy => ?_, B3.out⟩
                      rw [HTK.out] at hy
                      rcases List.mem_append.1 hy with hy | hy
                      · exact HG.out y hy
                      · simp at hy; subst hy; exact HGS.out
                    case measure => simp [intOf]; omega
                  · rw [hgs] at GO
                    clear hgs
                    go_wp2_with fail
                    refine (GO.out _).mono ?_
                    rintro e w2 ⟨rfl, rfl⟩
                    go_wp2_with fail
                    refine (lives9_any _).mono ?_
                    rintro e w90 ⟨rfl, hb90⟩
                    have HB90 := Kp.mk (B3.out.trans (hb90.mono B3.out.size))
                    clear hb90
                    go_wp2_with fail
                    go_ret
                    exact ⟨rfl, HB90.out⟩
                · have hall : ∀ y ∈ L, goesB y = false := by have := HG.out; rwa [List.take_of_length_le (by omega)] at this
                  obtain ⟨p1, p2⟩ := uf_plain (fold := 0) hall
                  obtain ⟨p3, p4⟩ := uf_plain (fold := 1) hall
                  have U0 := Kp.mk (HU0.out _ (HV.out.below B3.out))
                  have U1 := Kp.mk (HU1.out)
                  rw [p1, p2] at U0
                  rw [p3, p4] at U1
                  clear p1 p2 p3 p4 hall
                  go_wp2_with fail
                  refine U0.out.mono ?_
                  rintro e w4 ⟨u1, rfl, ho, hb⟩
                  have B4 := Kp.mk (B3.out.trans (hb.mono B3.out.size))
                  have R1 := Kp.mk (rds_own ho)
                  obtain ⟨a1, c1, rfl⟩ := own_lenH ho
                  clear ho hb
                  go_wp2_with fail
                  refine (U1.out _ (HV.out.below B4.out)).mono ?_
                  rintro e w5 ⟨u2, rfl, ho, hb⟩
                  have B5 := Kp.mk (B4.out.trans (hb.mono B4.out.size))
                  have R2 := Kp.mk (rds_own ho)
                  replace R1 := Kp.mk (R1.out.below hb)
                  obtain ⟨a2, c2, rfl⟩ := own_lenH ho
                  clear ho hb
                  go_wp2_with fail
                  refine (rssame_any _ _ L L _ R1.out (HV.out.below B5.out) (by omega) (by omega)).mono ?_
                  rintro e w6 ⟨rfl, hb⟩
                  rw [sameL_self]
                  have B6 := Kp.mk (B5.out.trans (hb.mono B5.out.size))
                  replace R2 := Kp.mk (R2.out.below hb)
                  clear hb
                  go_wp2_with fail
                  refine (rssame_any _ _ L L _ R2.out (HV.out.below B6.out) (by omega) (by omega)).mono ?_
                  rintro e w7 ⟨rfl, hb⟩
                  rw [sameL_self]
                  have B7 := Kp.mk (B6.out.trans (hb.mono B6.out.size))
                  clear hb
                  go_wp2_with fail
                  refine (lives9_any _).mono ?_
                  rintro e w90 ⟨rfl, hb90⟩
                  have HB90 := Kp.mk (B7.out.trans (hb90.mono B7.out.size))
                  clear hb90
                  go_wp2_with fail
                  go_ret
                  exact ⟨rfl, HB90.out⟩
        · have q2 : (1000 : Int) < (x.size : Int) := by omega
          go_wp2_with fail
          refine (lives9_any _).mono ?_
          rintro e w90 ⟨rfl, hb90⟩
          have HB90 := Kp.mk (B0.out.trans (hb90.mono B0.out.size))
          clear hb90
          go_wp2_with fail
          go_ret
          exact ⟨rfl, HB90.out⟩
      · have q1 : (300 : Int) < (n.size : Int) := by omega
        go_wp2_with fail
        refine (lives9_any _).mono ?_
        rintro e w90 ⟨rfl, hb90⟩
        have HB90 := Kp.mk (B0.out.trans (hb90.mono B0.out.size))
        clear hb90
        go_wp2_with fail
        go_ret
        exact ⟨rfl, HB90.out⟩
theorem fback_arg (v0 v1 v2 : Value) (w : World) (h0 : Arg Tryd.prog w 59 v0) (h1 : Arg Tryd.prog w 9 v1) (h2 : Arg Tryd.prog w 33 v2) :
    Calls Tryd.prog 7 #[v0, v1, v2] w fun e w' => e = .returned (.bool true) ∧ Below w.heap.size w w' := by
  obtain ⟨n, x, rfl, hn, hx⟩ := fld_arg v0 w h0
  obtain ⟨s, rfl, hs⟩ := h1.str Tryd.underlying9
  obtain ⟨L, hv, hz⟩ := h2.strs Tryd.underlying33 Tryd.underlying9 Tryd.fcellsFs
  exact fback_walk n x s v2 L w hn hx hs hv hz
end Go.Proofs.YtkfpioadimkogaaDoor
