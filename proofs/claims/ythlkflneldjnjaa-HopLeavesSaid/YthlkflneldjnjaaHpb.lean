/- Fields of one connection (layer 29): which names are taken out, what is left, on both sides; the law HopStrips. -/
import Derived.Test.YthlkflneldjnjaaHpa
import Derived.Test.YthlkflneldjnjaaHdd
namespace Go.Proofs.Ythlkflneldjnjaa
open Go.RowKit
set_option linter.unusedVariables false
set_option linter.unusedSimpArgs false

theorem rds_grown {w5 w' : World} {o : Obj} {vK vs : Value} {K : List ByteArray} (h : RdS w5 vK K) (hg : (w5.alloc o).grownBy w' vs.ownBlock) (hd : ∀ b, vs.ownBlock = some b → vK.ownBlock ≠ some b) : RdS w' vK K :=
  h.stays (by have := hg.size; simp at this; omega) fun k hk hv => (hg.block k (by simp; omega) (fun e => hd k e.symm hv)).trans (Below.heap_alloc w5 o k hk)
theorem hopN_eq (v : ByteArray) : hopN v = hopT (conW v) (conW v).length := by unfold hopN hopT; rw [List.take_length]
theorem cells_lit (w : World) (l : List ByteArray) (t : TypeId) : ∀ (j : Nat) (h : j < l.length), (w.alloc (.cells (svH l).toArray t)).cell? ⟨w.heap.size, 0 + j, none⟩ = some (.string l[j]) := fun j h =>
  blk_cell (heap_alloc_new w _) (by rw [Nat.zero_add, svH_map]; simp [h])
theorem hopNo_sz : ∀ n ∈ hopNo, n.size ≤ 100000 := by decide +kernel
theorem hopOwn_sz : ∀ n ∈ hopOwn, n.size ≤ 100000 := by decide +kernel
theorem rds_blkN {w : World} {B : Nat} {t : TypeId} {l : List ByteArray} (h : w.heap[B]? = some (.cells (svH l).toArray t (0, 0))) (hm : l.length ≤ 100) : RdS w (.slice (some ⟨B, 0, none⟩) l.length l.length) l := by
  refine ⟨_, _, rfl, Nat.le_refl _, by unfold maxLen; omega, fun _ => ⟨B, 0, rfl, blk_lt h, fun j hj i hi => ?_⟩⟩
  have hi0 : i = 0 := by omega
  subst hi0
  have := blk_cell (i := j) h (v := .string l[j]) (by rw [svH_map]; simp [hj])
  rw [show 0 + j * 1 + 0 = j from by omega]
  simpa [strC] using this
set_option maxRecDepth 100000 in
set_option maxHeartbeats 2000000 in
theorem names_any (vl : Value) (l : List Fld) (w : World) (hv : RdF w vl l) (hF : FewF l) : Calls Try.prog 31 #[vl] w (RetS (hopN (conV l)) w) := by
  have hvz : (conV l).size ≤ 50100 := hF.comb nmCon
  have hwl := conW_len (conV l)
  have HWM := Kp.mk (fun x (h : x ∈ conW (conV l)) => show x.size ≤ 100000 by have h1 := conW_mem h; omega)
  have HN := Kp.mk (hopN_eq (conV l))
  have HF := Kp.mk hF
  have HV := Kp.mk hv
  have HB0 := Kp.mk (show Below w.heap.size w (w.alloc (.cells (svH hopOwn).toArray 84)) from (Below.refl _ _).alloc (Nat.le_refl _) _)
  have e1 : (w.alloc (.cells (svH hopOwn).toArray 84)).heap.size = w.heap.size + 1 := World.size_alloc _ _
  have HB1 := Kp.mk (show Below w.heap.size w ((w.alloc (.cells (svH hopOwn).toArray 84)).alloc (.cells (svH hopNo).toArray 85)) from HB0.out.alloc (by rw [e1]; omega) _)
  have k0 := blk_alloc (o2 := .cells (svH hopNo).toArray 85) (heap_alloc_new w (.cells (svH hopOwn).toArray 84))
  have k1 := heap_alloc_new (w.alloc (.cells (svH hopOwn).toArray 84)) (.cells (svH hopNo).toArray 85)
  rw [e1] at k1
  have K0 := Kp.mk k0
  have K1 := Kp.mk k1
  clear hF hv k0 k1
  go_enter Try.func31, Try.ntmps31
  go_wp2_with fail
  refine (clones_any w.heap.size 0 7 hopOwn _ (blk_lt K0.out) (fun j hj => blk_cell K0.out (by rw [Nat.zero_add, svH_map]; simp [hj])) (by decide)).mono ?_
  rintro e w2 ⟨u, rfl, ho, hb2⟩
  have HB2 := Kp.mk (HB1.out.trans (hb2.mono HB1.out.size))
  have e2 : ((w.alloc (.cells (svH hopOwn).toArray 84)).alloc (.cells (svH hopNo).toArray 85)).heap.size = w.heap.size + 2 := by rw [World.size_alloc, e1]
  have HO2 := Kp.mk (own_low ho (by rw [e2]; exact Nat.le_refl _))
  have LM := Kp.mk (fun b h => (ho.lt b h).2)
  have K2 := Kp.mk ((hb2.block _ (blk_lt K1.out)).trans K1.out)
  obtain ⟨a, c, rfl⟩ := own_lenH ho
  clear ho hb2
  go_wp2_with fail
  refine (words_any vl l _ (HV.out.below HB2.out) HF.out).mono ?_
  rintro e w3 ⟨u, rfl, ho, hb3⟩
  have HB3 := Kp.mk (HB2.out.trans (hb3.mono HB2.out.size))
  have HO3 := Kp.mk (own_bel HO2.out hb3)
  have K3 := Kp.mk ((hb3.block _ (blk_lt K2.out)).trans K2.out)
  have LK := Kp.mk (fun b h => (ho.lt b h))
  have HR := Kp.mk (rds_own ho)
  obtain ⟨a3, c3, rfl⟩ := own_lenH ho
  clear ho hb3
  generalize conW (conV l) = W at *
  generalize conE (conV l) = er at *
  go_wp2_with fail
  go_loopw [5, 21] (fun vs i wr => ∃ k : Nat, k ≤ W.length ∧ i = .int .i64 k ∧ wr.ownsRow (w.heap.size + 2) 9 1 vs (hopT W k).length (svH (hopT W k)) ∧ Below w.heap.size w wr ∧ RdS wr (.slice a3 W.length c3) W ∧ (∀ b, vs.ownBlock = some b → (Value.slice a3 W.length c3).ownBlock ≠ some b) ∧ w3.heap.size ≤ wr.heap.size ∧ wr.heap[w.heap.size + 1]? = some (.cells (svH hopNo).toArray 85 (0, 0))) (fun _ i _ => W.length - (intOf i).toNat)
  case atStart =>
    refine ⟨0, by omega, rfl, by rw [hopT_zero]; exact HO3.out, HB3.out, HR.out, fun b h h2 => ?_, Nat.le_refl _, K3.out⟩
    have := LM.out b h; have := (LK.out b h2).1; omega
  case round =>
    obtain ⟨k, hk, rfl, hown, hb, hkr, hdj, hs3, hno⟩ := hrel
    obtain ⟨a4, c4, rfl⟩ := own_lenH hown
    have HB := Kp.mk hb
    have HO := Kp.mk hown
    have HK := Kp.mk hkr
    have HDJ := Kp.mk hdj
    have HNO := Kp.mk hno
    have hsz := hb.size
    have hle := hopT_len W k
    have hsz2 : w.heap.size + 2 ≤ wr.heap.size := by have := blk_lt hno; omega
    clear hown hb hdj hno
    by_cases hlt : k < W.length
    · obtain ⟨g, o, rfl, hgl, d0⟩ := rds_cells hkr (by omega)
      have c1 := d0 k hlt
      have m1 := HWM.out W[k] (List.getElem_mem hlt)
      have q0 : (0 : Int) ≤ (k : Int) := by omega
      have q1 : (k : Int) < (W.length : Int) := by omega
      have HT := Kp.mk (hopT_step hlt)
      clear d0 hkr
      generalize W[k] = x at *
      have HBA := Kp.mk (show Below w.heap.size w (wr.alloc (.cells #[.string x] 9)) from HB.out.alloc hsz _)
      have HA := Kp.mk (show Below wr.heap.size wr (wr.alloc (.cells #[.string x] 9)) from (Below.refl _ _).alloc (Nat.le_refl _) _)
      have HKN := Kp.mk (heap_alloc_new wr (.cells #[.string x] 9))
      have HOA := Kp.mk (own_bel HO.out HA.out)
      have HKA := Kp.mk (HK.out.below HA.out)
      have HNA := Kp.mk (blk_alloc (o2 := .cells #[.string x] 9) HNO.out)
      have HRN := Kp.mk (rds_blkN (l := hopNo) HNA.out (by decide))
      go_wp2_with fail
      refine (hcof_any _ hopNo x _ _ HRN.out (blk_cell (i := 0) HKN.out rfl) (by simp) hopNo_sz m1 (by decide)).mono ?_
      rintro e w5 ⟨rfl, hb5⟩
      have HBX := Kp.mk (HBA.out.trans (hb5.mono HBA.out.size))
      have HO5 := Kp.mk (own_bel HOA.out hb5)
      have HK5 := Kp.mk (HKA.out.below hb5)
      have HN5 := Kp.mk ((hb5.block _ (blk_lt HNA.out)).trans HNA.out)
      have d1 := blk_cell (i := 0) ((hb5.block wr.heap.size (by simp)).trans HKN.out) rfl
      have hs5 : w3.heap.size ≤ w5.heap.size := by have := hb5.size; simp at this; omega
      have hsz5 : w.heap.size + 2 ≤ w5.heap.size := by have := hb5.size; simp at this; omega
      have hnh : noH x = tHasN x hopNo := rfl
      clear hb5 c1
      cases hf : tHasN x hopNo
      · have HT2 := Kp.mk (show hopT W (k + 1) = hopT W k ++ [x] by rw [HT.out, hnh, hf]; rfl)
        have hlen : ((hopT W k).length + 1) * 16 ≤ 140737488355328 := by omega
        have hmx : (hopT W k).length + 1 ≤ maxLen := by unfold maxLen; omega
        clear hnh
        go_wp2_with (at_builtin; refine app_any rfl _ _ _ _ rfl Try.underlying25 _ _ _ Try.infoSH rfl (by omega) (w.heap.size + 2) _ _ _ rfl HO5.out #[.string x] rfl (fun u hu => by simp at hu; subst hu; rfl) _ rfl rfl hlen hmx hsz5 ?_; intro g' cap' w' h1 h2 h3; have G1 := Kp.mk h1; have G2 := Kp.mk h2; have G3 := Kp.mk h3; clear h1 h2 h3)
        go_roundw
        case rel =>
          have hgb := grown_bel HO5.out hsz5 G2.out
          refine ⟨k + 1, by omega, by go_num, ?_, HBX.out.trans (hgb.mono (by omega)), rds_grown HK5.out G2.out HDJ.out, fun b h h2 => ?_, ?_, (hgb.block _ (by omega)).trans HN5.out⟩
          · rw [HT2.out, List.length_append, svH_snoc]
            exact G1.out
          · rcases G3.out with h3 | h3
            · exact HDJ.out b (h3.trans h) h2
            · have h4 := (LK.out b h2).2
              have h5 : some g' = some b := h
              cases h5
              omega
          · have := G2.out.size; simp at this; omega
        case measure => simp [intOf]; omega
      · have HT2 := Kp.mk (show hopT W (k + 1) = hopT W k by rw [HT.out, hnh, hf]; simp)
        clear hnh
        go_wp2_with fail
        go_roundw
        case rel => exact ⟨k + 1, by omega, by go_num, by rw [HT2.out]; exact HO5.out, HBX.out, HK5.out, HDJ.out, hs5, HN5.out⟩
        case measure => simp [intOf]; omega
    · have hke : k = W.length := by omega
      subst hke
      go_wp2_with fail
      go_ret
      refine ⟨_, rfl, ?_, HB.out⟩
      rw [HN.out]
      exact own_low HO.out (by omega)
def lHost : List UInt8 := [104, 111, 115, 116]
def lCL : List UInt8 := [99, 111, 110, 116, 101, 110, 116, 45, 108, 101, 110, 103, 116, 104]
def lVia : List UInt8 := [118, 105, 97]
theorem noH_low {x : ByteArray} (h : lowB x = x) : noH x = ((x.toList == [104, 111, 115, 116]) || ((x.toList == [99, 111, 110, 116, 101, 110, 116, 45, 108, 101, 110, 103, 116, 104]) || (x.toList == [118, 105, 97]))) := by
  have e1 : (lowB ⟨#[72, 111, 115, 116]⟩).toList = [104, 111, 115, 116] := by rw [ByteArray.toList_eq]; decide +kernel
  have e2 : (lowB ⟨#[67, 111, 110, 116, 101, 110, 116, 45, 76, 101, 110, 103, 116, 104]⟩).toList = [99, 111, 110, 116, 101, 110, 116, 45, 108, 101, 110, 103, 116, 104] := by rw [ByteArray.toList_eq]; decide +kernel
  have e3 : (lowB ⟨#[86, 105, 97]⟩).toList = [118, 105, 97] := by rw [ByteArray.toList_eq]; decide +kernel
  unfold noH hopNo foldB
  rw [List.any_cons, List.any_cons, List.any_cons, List.any_nil, Bool.or_false, h, e1, e2, e3]
  rw [beq_swap [104, 111, 115, 116], beq_swap [99, 111, 110, 116, 101, 110, 116, 45, 108, 101, 110, 103, 116, 104], beq_swap [118, 105, 97]]
theorem conW_low {v x : ByteArray} (h : x ∈ conW v) : lowB x = x := by
  unfold conW at h
  split at h
  · rw [List.mem_map] at h
    obtain ⟨y, _, rfl⟩ := h
    exact lowB_lowB y
  · cases h
set_option maxRecDepth 100000 in
set_option maxHeartbeats 4000000 in
theorem rnames_any (vl : Value) (l : List Fld) (w : World) (hv : RdF w vl l) (hF : FewF l) : Calls Try.prog 32 #[vl] w (RetS (hopN (conV l)) w) := by
  have hvz : (conV l).size ≤ 50100 := hF.comb nmCon
  have hwl := conW_len (conV l)
  have HWM := Kp.mk (fun x (h : x ∈ conW (conV l)) => noH_low (conW_low h))
  have HN := Kp.mk (hopN_eq (conV l))
  have HF := Kp.mk hF
  have HV := Kp.mk hv
  have HB1 := Kp.mk (show Below w.heap.size w (w.alloc (.cells (svH hopOwn).toArray 9)) from (Below.refl _ _).alloc (Nat.le_refl _) _)
  have HO1 := Kp.mk (show (w.alloc (.cells (svH hopOwn).toArray 9)).ownsRow w.heap.size 9 1 (.slice (some ⟨w.heap.size, 0, none⟩) 7 7) 7 (svH hopOwn) from World.ownsRow_lit (base := w.heap.size) (e := 9) (size := 1) w (svH hopOwn).toArray 7 (Nat.le_refl _) (by unfold maxLen; omega) rfl)
  clear hF hv
  go_enter Try.func32, Try.ntmps32
  go_wp2_with fail
  refine (rwords_any vl l _ (HV.out.below HB1.out) HF.out).mono ?_
  rintro e w3 ⟨u, rfl, ho, hb3⟩
  have HB3 := Kp.mk (HB1.out.trans (hb3.mono HB1.out.size))
  have HO3 := Kp.mk (own_bel HO1.out hb3)
  have LK := Kp.mk (fun b h => (ho.lt b h))
  have HR := Kp.mk (rds_own ho)
  obtain ⟨a3, c3, rfl⟩ := own_lenH ho
  clear ho hb3
  generalize conW (conV l) = W at *
  generalize conE (conV l) = er at *
  go_wp2_with fail
  go_loopw [3, 6] (fun vs i wr => ∃ k : Nat, k ≤ W.length ∧ i = .int .i64 k ∧ wr.ownsRow w.heap.size 9 1 vs (hopT W k).length (svH (hopT W k)) ∧ Below w.heap.size w wr ∧ RdS wr (.slice a3 W.length c3) W ∧ (∀ b, vs.ownBlock = some b → (Value.slice a3 W.length c3).ownBlock ≠ some b) ∧ w3.heap.size ≤ wr.heap.size) (fun _ i _ => W.length - (intOf i).toNat)
  case atStart =>
    refine ⟨0, by omega, rfl, by rw [hopT_zero]; exact HO3.out, HB3.out, HR.out, fun b h h2 => ?_, Nat.le_refl _⟩
    have h9 := (LK.out b h2).1
    have h8 : w.heap.size = b := by simpa [Value.ownBlock] using h
    simp at h9
    omega
  case round =>
    obtain ⟨k, hk, rfl, hown, hb, hkr, hdj, hs3⟩ := hrel
    obtain ⟨a4, c4, rfl⟩ := own_lenH hown
    have HB := Kp.mk hb
    have HO := Kp.mk hown
    have HK := Kp.mk hkr
    have HDJ := Kp.mk hdj
    have hsz := hb.size
    have hle := hopT_len W k
    clear hown hb hdj
    by_cases hlt : k < W.length
    · obtain ⟨g, o, rfl, hgl, d0⟩ := rds_cells hkr (by omega)
      have c1 := d0 k hlt
      have HNL := Kp.mk (HWM.out W[k] (List.getElem_mem hlt))
      have q0 : (0 : Int) ≤ (k : Int) := by omega
      have q1 : (k : Int) < (W.length : Int) := by omega
      have HT := Kp.mk (hopT_step hlt)
      clear d0 hkr
      generalize W[k] = x at *
      cases b1 : (x.toList == [104, 111, 115, 116])
      · cases b2 : (x.toList == [99, 111, 110, 116, 101, 110, 116, 45, 108, 101, 110, 103, 116, 104])
        · cases b3 : (x.toList == [118, 105, 97])
          · have HT2 := Kp.mk (show hopT W (k + 1) = hopT W k ++ [x] by rw [HT.out, HNL.out, b1, b2, b3]; rfl)
            have n1 : ¬ x.toList = [104, 111, 115, 116] := beq_eq_false_iff_ne.1 b1
            have n2 : ¬ x.toList = [99, 111, 110, 116, 101, 110, 116, 45, 108, 101, 110, 103, 116, 104] := beq_eq_false_iff_ne.1 b2
            have n3 : ¬ x.toList = [118, 105, 97] := beq_eq_false_iff_ne.1 b3
            have m1 : (x.toList != [104, 111, 115, 116]) = true := by rw [bne, b1]; rfl
            have m2 : (x.toList != [99, 111, 110, 116, 101, 110, 116, 45, 108, 101, 110, 103, 116, 104]) = true := by rw [bne, b2]; rfl
            have m3 : (x.toList != [118, 105, 97]) = true := by rw [bne, b3]; rfl
            have hlen : ((hopT W k).length + 1) * 16 ≤ 140737488355328 := by omega
            have hmx : (hopT W k).length + 1 ≤ maxLen := by unfold maxLen; omega
            go_wp2_with (at_builtin; refine app_any rfl _ _ _ _ rfl Try.underlying25 _ _ _ Try.infoSH rfl (by omega) w.heap.size _ _ _ rfl HO.out #[.string x] rfl (fun u hu => by simp at hu; subst hu; rfl) _ rfl rfl hlen hmx hsz ?_; intro g' cap' w' h1 h2 h3; have G1 := Kp.mk h1; have G2 := Kp.mk h2; have G3 := Kp.mk h3; clear h1 h2 h3)
            go_roundw
            case rel =>
              have hgb := grown_bel HO.out hsz G2.out
              refine ⟨k + 1, by omega, by go_num, ?_, HB.out.trans hgb, rds_grown HK.out G2.out HDJ.out, fun b h h2 => ?_, ?_⟩
              · rw [HT2.out, List.length_append, svH_snoc]
                exact G1.out
              · rcases G3.out with h3 | h3
                · exact HDJ.out b (h3.trans h) h2
                · have h4 := (LK.out b h2).2
                  have h5 : some g' = some b := h
                  cases h5
                  omega
              · have := G2.out.size; simp at this; omega
            case measure => simp [intOf]; omega
          · have HT2 := Kp.mk (show hopT W (k + 1) = hopT W k by rw [HT.out, HNL.out, b1, b2, b3]; simp)
            have m1 : (x.toList != [104, 111, 115, 116]) = true := by rw [bne, b1]; rfl
            have m2 : (x.toList != [99, 111, 110, 116, 101, 110, 116, 45, 108, 101, 110, 103, 116, 104]) = true := by rw [bne, b2]; rfl
            have m3 : (x.toList != [118, 105, 97]) = false := by rw [bne, b3]; rfl
            go_wp2_with fail
            go_roundw
            case rel => exact ⟨k + 1, by omega, by go_num, by rw [HT2.out]; exact HO.out, HB.out, HK.out, HDJ.out, hs3⟩
            case measure => simp [intOf]; omega
        · have HT2 := Kp.mk (show hopT W (k + 1) = hopT W k by rw [HT.out, HNL.out, b1, b2]; simp)
          have m1 : (x.toList != [104, 111, 115, 116]) = true := by rw [bne, b1]; rfl
          have m2 : (x.toList != [99, 111, 110, 116, 101, 110, 116, 45, 108, 101, 110, 103, 116, 104]) = false := by rw [bne, b2]; rfl
          go_wp2_with fail
          go_roundw
          case rel => exact ⟨k + 1, by omega, by go_num, by rw [HT2.out]; exact HO.out, HB.out, HK.out, HDJ.out, hs3⟩
          case measure => simp [intOf]; omega
      · have HT2 := Kp.mk (show hopT W (k + 1) = hopT W k by rw [HT.out, HNL.out, b1]; simp)
        have m1 : (x.toList != [104, 111, 115, 116]) = false := by rw [bne, b1]; rfl
        go_wp2_with fail
        go_roundw
        case rel => exact ⟨k + 1, by omega, by go_num, by rw [HT2.out]; exact HO.out, HB.out, HK.out, HDJ.out, hs3⟩
        case measure => simp [intOf]; omega
    · have hke : k = W.length := by omega
      subst hke
      go_wp2_with fail
      go_ret
      refine ⟨_, rfl, ?_, HB.out⟩
      rw [HN.out]
      exact HO.out
end Go.Proofs.Ythlkflneldjnjaa
