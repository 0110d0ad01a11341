/- Tally (layer 49): TallyCounts. -/
import Derived.Test.YtocnecbhpofdgaaTlu
import Derived.Test.YtocnecbhpofdgaaTlr
import Derived.Test.YtocnecbhpofdgaaQs
import Derived.Deep.DeepCutAuto
namespace Go.Proofs.Ytocnecbhpofdgaa
open Go.RowKit Go.Sort Go.Shelf
set_option linter.unusedVariables false
set_option linter.unusedSimpArgs false

/-- How often each is counted behind these calls. -/
def actF (l : List Ri) : Int → Int := l.foldl (fun F a => adFi F a.1 (tsum (F a.1) a.2)) (fun _ => 0)
theorem actF_snoc (l : List Ri) (a : Ri) : actF (l ++ [a]) = adFi (actF l) a.1 (tsum (actF l a.1) a.2) := by simp [actF, List.foldl_append]
/-- What the law comes to. -/
def wantK (x : Int) (l : List Ri) : Int := l.foldl (fun c b => if b.1 = x then tsum c b.2 else c) 0
theorem wantK_snoc (x : Int) (l : List Ri) (a : Ri) : wantK x (l ++ [a]) = if a.1 = x then tsum (wantK x l) a.2 else wantK x l := by simp [wantK, List.foldl_append]
theorem want_act (x : Int) (l : List Ri) : wantK x l = actF l x := by
  refine snoc_ind (P := fun l => wantK x l = actF l x) rfl ?_ l
  intro X y ih
  rw [wantK_snoc, actF_snoc]
  unfold adFi
  by_cases e : y.1 = x
  · rw [if_pos e, if_pos e.symm, ih, e]
  · rw [if_neg e, if_neg (fun h => e h.symm), ih]
theorem wantK_in (x : Int) (l : List Ri) : 0 ≤ wantK x l ∧ wantK x l ≤ 1099511627776 := by
  refine snoc_ind (P := fun l => 0 ≤ wantK x l ∧ wantK x l ≤ 1099511627776) (by simp [wantK]) ?_ l
  intro X y ih
  rw [wantK_snoc]
  split
  · exact tsum_in _ _ ih.1
  · exact ih
def ActOk (p : Ri) : Prop := (Lit.int .i64 p.1).wf = true ∧ (Lit.int .i64 p.2).wf = true
abbrev RdAc (w : World) (v : Value) (l : List Ri) : Prop := RdL RiE 2 w v l
theorem ac_cells {w : World} {a : Option Addr} {c n : Nat} {l : List Ri} (h : RdAc w (.slice a n c) l) (h0 : 0 < l.length) : ∃ b o, a = some ⟨b, o, none⟩ ∧ b < w.heap.size ∧ ∀ (j : Nat) (h : j < l.length), w.cell? ⟨b, o + j * 2, none⟩ = some (.int .i64 l[j].1) ∧ w.cell? ⟨b, o + j * 2 + 1, none⟩ = some (.int .i64 l[j].2) := by
  obtain ⟨a', c', h1, h2, h3, h4⟩ := h
  cases h1
  obtain ⟨b, o, g1, g2, g3⟩ := h4 h0
  exact ⟨b, o, g1, g2, fun j hj => ⟨g3 j hj 0 (by omega), g3 j hj 1 (by omega)⟩⟩
theorem Try.cellsAc : Try.prog.cellsOf 50 = 2 := by kernel_rfl
set_option maxRecDepth 100000 in
theorem act_of {w : World} {E : List Value} (h : Rdb Try.prog w 50 E) : ∃ x : Ri, E = RiE x ∧ ActOk x := by
  obtain ⟨hl, hf⟩ := h.struct Try.underlying50
  rw [Try.cellsAc] at hl
  have f0 : Rdb Try.prog w 3 ((E.drop 0).take (Try.prog.cellsOf 3)) := hf 0 _ rfl
  have f1 : Rdb Try.prog w 3 ((E.drop 1).take (Try.prog.cellsOf 3)) := hf 1 _ rfl
  rw [Try.cellsHi] at f0 f1
  match E, hl with
  | [x0, x1], _ =>
    obtain ⟨a, e0, z0⟩ := f0.int Try.underlying3
    obtain ⟨b, e1, z1⟩ := f1.int Try.underlying3
    simp at e0 e1
    exact ⟨(a, b), by rw [e0, e1]; rfl, z0, z1⟩
theorem act_arg (v : Value) (w : World) (h : Arg Try.prog w 41 v) : ∃ l, RdAc w v l ∧ ∀ x ∈ l, ActOk x :=
  h.list Try.underlying41 Try.cellsAc (by omega) fun E hE => act_of hE
set_option maxRecDepth 100000 in
set_option maxHeartbeats 4000000 in
theorem tcounts_walk (v : Value) (l : List Ri) (most : Int) (w : World) (hv : RdAc w v l) (hz : ∀ p ∈ l, ActOk p) (hm0 : -9223372036854775808 ≤ most) (hm1 : most ≤ 9223372036854775807) :
    Calls Try.prog 4 #[v, .int .i64 most] w fun e w' => e = .returned (.bool true) ∧ Below w.heap.size w w' := by
  have HV := Kp.mk hv
  have HZ := Kp.mk hz
  have HLV := Kp.mk (fun W => lives49_any W)
  obtain ⟨a, c, rfl, g1, g2, -⟩ := hv
  unfold maxLen at g2
  have hll : l.length ≤ 9223372036854775807 := by omega
  have HCP := Kp.mk g1
  have HCQ := Kp.mk g2
  have HA0 := Kp.mk ((Below.refl w.heap.size w).alloc (Nat.le_refl _) (.cells #[.int .i64 most] 3))
  have HM0 := Kp.mk (heap_alloc_new w (.cells #[.int .i64 most] 3))
  clear hz g1 g2
  go_enter Try.func4, Try.ntmps4
  by_cases hl : l.length ≤ 100
  · have hd : decide (100 < (l.length : Int)) = false := decide_eq_false (by omega)
    go_wp2_with fail
    refine (tadd_nil _).mono ?_
    rintro e w2 ⟨rfl, rfl⟩
    go_wp2_with fail
    refine (tof_nil _).mono ?_
    rintro e w2 ⟨rfl, rfl⟩
    go_wp2_with fail
    refine (tsum_nil _).mono ?_
    rintro e wz ⟨rfl, hbz⟩
    have HBZ := Kp.mk (HA0.out.trans (hbz.mono HA0.out.size))
    have HMZ := Kp.mk ((hbz.block _ (blk_lt HM0.out)).trans HM0.out)
    have HMZL := Kp.mk (blk_lt HMZ.out)
    clear hbz HM0 HA0
    have HT0 := Kp.mk (show Tyi wz.heap.size wz.heap.size 0 (actF (l.take 0)) (wz.alloc (.cells #[.map none, .int .i64 0, .int .i64 0] 48)) from ⟨Nat.le_refl _, fun x => by simp [actF], none, heap_alloc_new wz _, .inl ⟨rfl, rfl⟩⟩)
    have HB0 := Kp.mk ((Below.refl wz.heap.size wz).alloc (Nat.le_refl _) (.cells #[.map none, .int .i64 0, .int .i64 0] 48))
    go_wp2_with fail
    go_loopw [40] (fun vi wr => ∃ k : Nat, k ≤ l.length ∧ vi = .int .i64 k ∧ Tyi wz.heap.size wz.heap.size k (actF (l.take k)) wr ∧ Below wz.heap.size wz wr) (fun vi _ => l.length - (intOf vi).toNat)
    case atStart => exact ⟨0, Nat.zero_le _, rfl, HT0.out, HB0.out⟩
    case round =>
      obtain ⟨k, hk, rfl, ht, hb⟩ := hrel
      have HT := Kp.mk ht
      have HBK := Kp.mk hb
      have hzk := hb.size
      clear ht hb
      by_cases hlt : k < l.length
      · have HVK := Kp.mk (HV.out.below (HBZ.out.trans (HBK.out.mono HBZ.out.size)))
        obtain ⟨b, o, rfl, hbl, d⟩ := ac_cells HVK.out (by omega)
        obtain ⟨d0, d1⟩ := d k hlt
        have HOK := Kp.mk (HZ.out _ (List.getElem_mem hlt))
        have HTK := Kp.mk (show l.take (k + 1) = l.take k ++ [l[k]] from List.take_succ_eq_append_getElem hlt)
        clear d
        generalize l[k] = f at *
        obtain ⟨x, n⟩ := f
        dsimp only at d0 d1
        have q1 : (k : Int) < (l.length : Int) := by omega
        have q0 : (0 : Int) ≤ (k : Int) := by omega
        have hcap : k + 1 ≤ c := by have := HCP.out; omega
        have HX := Kp.mk (heap_alloc_new wr (.cells #[.int .i64 x, .int .i64 n] 50))
        have HBX := Kp.mk (HBK.out.alloc hzk (.cells #[.int .i64 x, .int .i64 n] 50))
        have HTX := Kp.mk (HT.out.below ((Below.refl wr.heap.size wr).alloc (Nat.le_refl _) (.cells #[.int .i64 x, .int .i64 n] 50)))
        go_wp2_with fail
        obtain ⟨wq, hwq⟩ : ∃ wq, wr.alloc (.cells #[.int .i64 x, .int .i64 n] 50) = wq := ⟨_, rfl⟩
        have HQZ := Kp.mk (show wq.heap.size = wr.heap.size + 1 by rw [← hwq]; simp)
        rw [hwq] at HX HBX HTX ⊢
        clear hwq d0 d1
        go_loopw [9, 50] (fun vn vj wj => ∃ j : Nat, j ≤ k + 1 ∧ vj = .int .i64 j ∧ vn = .int .i64 (wantK x (l.take j)) ∧ Below wq.heap.size wq wj) (fun _ vj _ => k + 1 - (intOf vj).toNat)
        case atStart => exact ⟨0, Nat.zero_le _, rfl, rfl, Below.refl _ _⟩
        case round =>
          obtain ⟨j, hj, rfl, rfl, hbj⟩ := hrel
          obtain ⟨wn, rfl⟩ : ∃ wn : World, wn = wr := ⟨_, rfl⟩
          have HBJ := Kp.mk hbj
          have hXj := (hbj.block _ (blk_lt HX.out)).trans HX.out
          have e0 := blk_cell (i := 0) hXj rfl
          have e1 := blk_cell (i := 1) hXj rfl
          have hzj := hbj.size
          have hxl := blk_lt hXj
          have HXJ := Kp.mk hXj
          clear hbj hXj
          by_cases hlj : j < k + 1
          · have HVJ := Kp.mk (HV.out.below (HBZ.out.trans ((HBX.out.trans (HBJ.out.mono HBX.out.size)).mono HBZ.out.size)))
            obtain ⟨b', o', hbb, -, d⟩ := ac_cells HVJ.out (by omega)
            cases hbb
            have hjl : j < l.length := by omega
            obtain ⟨d0, d1⟩ := d j hjl
            have HWK := Kp.mk (show wantK x (l.take (j + 1)) = if l[j].1 = x then tsum (wantK x (l.take j)) l[j].2 else wantK x (l.take j) by rw [List.take_succ_eq_append_getElem hjl, wantK_snoc])
            have hwi := wantK_in x (l.take j)
            have HOJ := Kp.mk (bounds_i64 (HZ.out _ (List.getElem_mem hjl)).2)
            clear d
            generalize l[j] = f at *
            obtain ⟨y, m⟩ := f
            dsimp only at d0 d1 HWK HOJ
            have q3 : (j : Int) < (k : Int) + 1 := by omega
            have q2 : (0 : Int) ≤ (j : Int) := by omega
            have HBA := Kp.mk (HBJ.out.alloc hzj (.cells #[.int .i64 y, .int .i64 m] 50))
            generalize wantK x (l.take j) = C at *
            by_cases hy : y = x
            · have HW2 := Kp.mk (HWK.out.trans (by rw [if_pos hy]))
              have t1 : (y == x) = true := by rw [beq_iff_eq]; exact hy
              subst hy
              have ho1 := HOJ.out.1
              have ho2 := HOJ.out.2
              have hc0 := hwi.1
              have hc1 := hwi.2
              have HTT := Kp.mk (show wantK y (l.take (j + 1)) = min (C + min (max m 0) 1099511627776) 1099511627776 from HW2.out)
              clear HWK HW2 hwi HOJ
              rcases (show m < 0 ∨ (m = 0) ∨ (0 < m ∧ m ≤ 1099511627776) ∨ 1099511627776 < m by omega) with h | h | ⟨h, h'⟩ | h
              · have q8 : ¬ 1099511627776 < m := by omega
                have q9 : wrap64 C = C := wrap64_idT _ (by omega) (by omega)
                have q7 : ¬ 1099511627776 < C := by omega
                have q6 : ¬ 0 < m := by omega
                go_wp2_with fail
                go_roundw
                case rel => exact ⟨j + 1, by omega, by go_num, by rw [HTT.out]; (congr 1 <;> omega), HBA.out⟩
                case measure => simp [intOf]; omega
              · subst h
                have q9 : wrap64 C = C := wrap64_idT _ (by omega) (by omega)
                have q7 : ¬ 1099511627776 < C := by omega
                go_wp2_with fail
                go_roundw
                case rel => exact ⟨j + 1, by omega, by go_num, by rw [HTT.out]; (congr 1 <;> omega), HBA.out⟩
                case measure => simp [intOf]; omega
              · have q8 : ¬ 1099511627776 < m := by omega
                have q9 : wrap64 (C + m) = C + m := wrap64_idT _ (by omega) (by omega)
                have q6 : ¬ m < 0 := by omega
                by_cases hs : 1099511627776 < C + m
                · go_wp2_with fail
                  go_roundw
                  case rel => exact ⟨j + 1, by omega, by go_num, by rw [HTT.out]; (congr 1 <;> omega), HBA.out⟩
                  case measure => simp [intOf]; omega
                · go_wp2_with fail
                  go_roundw
                  case rel => exact ⟨j + 1, by omega, by go_num, by rw [HTT.out]; (congr 1 <;> omega), HBA.out⟩
                  case measure => simp [intOf]; omega
              · have q9 : wrap64 (C + 1099511627776) = C + 1099511627776 := wrap64_idT _ (by omega) (by omega)
                by_cases hs : 1099511627776 < C + 1099511627776
                · go_wp2_with fail
                  go_roundw
                  case rel => exact ⟨j + 1, by omega, by go_num, by rw [HTT.out]; (congr 1 <;> omega), HBA.out⟩
                  case measure => simp [intOf]; omega
                · go_wp2_with fail
                  go_roundw
                  case rel => exact ⟨j + 1, by omega, by go_num, by rw [HTT.out]; (congr 1 <;> omega), HBA.out⟩
                  case measure => simp [intOf]; omega
            · have HW2 := Kp.mk (HWK.out.trans (by rw [if_neg hy]))
              have t1 : (y == x) = false := by rw [beq_eq_false_iff_ne]; exact hy
              go_wp2_with fail
              go_roundw
              case rel => exact ⟨j + 1, by omega, by go_num, by rw [HW2.out], HBA.out⟩
              case measure => simp [intOf]; omega
          · have hjn : j = k + 1 := by omega
            subst hjn
            have HWA := Kp.mk (show wantK x (l.take (k + 1)) = tsum (actF (l.take k) x) n by rw [want_act, HTK.out, actF_snoc]; unfold adFi; rw [if_pos rfl])
            have HAF := Kp.mk (show actF (l.take (k + 1)) = adFi (actF (l.take k)) x (tsum (actF (l.take k) x) n) by rw [HTK.out, actF_snoc])
            have HTn := Kp.mk (HTX.out.below HBJ.out)
            have hzn : wz.heap.size ≤ wn.heap.size := Nat.le_trans HBX.out.size HBJ.out.size
            have HAD := Kp.mk (taddi_keep wz.heap.size wz.heap.size k _ x n wn HTn.out HOK.out.1 (by omega) hzn)
            have HBN := Kp.mk (HBX.out.trans (HBJ.out.mono HBX.out.size))
            have HNE := Kp.mk (show wr.heap.size ≠ wz.heap.size by have := blk_lt HT.out.hb.choose_spec.1; omega)
            rw [HWA.out]
            generalize tsum (actF (l.take k) x) n = T at *
            go_wp2_with fail
            refine HAD.out.mono ?_
            rintro e wy ⟨rfl, hty, hby, hky⟩
            have hXy := (hky wr.heap.size hxl HNE.out (fun es c e => by rw [HXJ.out] at e; cases e)).trans HXJ.out
            rw [← HAF.out] at hty
            have HTY := Kp.mk hty
            have HBY := Kp.mk (HBN.out.trans hby)
            have c0 := blk_cell (i := 0) hXy rfl
            have HFT := Kp.mk (show actF (l.take (k + 1)) x = T by rw [HAF.out]; unfold adFi; rw [if_pos rfl])
            have HOF := Kp.mk (tofi_any wz.heap.size wz.heap.size (k + 1) _ x wy hty HOK.out.1)
            rw [HFT.out] at HOF
            clear hty hby hky HAD HAF HFT hXy e0 e1
            go_wp2_with fail
            refine HOF.out.mono ?_
            rintro e w9 ⟨rfl, rfl⟩
            go_wp2_with fail
            go_roundw
            case rel => exact ⟨k + 1, by omega, by go_num, HTY.out, HBY.out⟩
            case measure => simp [intOf]; omega
      · have hkn : k = l.length := by omega
        subst hkn
        rw [List.take_length] at HT
        generalize actF l = F at *
        have hmz := HMZL.out
        clear HT0 HB0
        go_wp2_with fail
        try simp only [Nat.add_assoc, Nat.reduceAdd]
        obtain ⟨w1, hw1⟩ : ∃ w1, ((((wr.alloc (.cells #[.int .i64 0] 3)).alloc (.cells #[.int .i64 0] 3)).alloc (.cells #[.int .i64 0] 3)).alloc (.cells #[.bool true] 4)) = w1 := ⟨_, rfl⟩
        have e1 : (wr.alloc (.cells #[.int .i64 0] 3)).heap.size = wr.heap.size + 1 := World.size_alloc _ _
        have e2 : ((wr.alloc (.cells #[.int .i64 0] 3)).alloc (.cells #[.int .i64 0] 3)).heap.size = wr.heap.size + 2 := by rw [World.size_alloc, e1]
        have e3 : (((wr.alloc (.cells #[.int .i64 0] 3)).alloc (.cells #[.int .i64 0] 3)).alloc (.cells #[.int .i64 0] 3)).heap.size = wr.heap.size + 3 := by rw [World.size_alloc, e2]
        have k1 := heap_alloc_new (wr.alloc (.cells #[.int .i64 0] 3)) (.cells #[.int .i64 0] 3)
        have k2 := heap_alloc_new ((wr.alloc (.cells #[.int .i64 0] 3)).alloc (.cells #[.int .i64 0] 3)) (.cells #[.int .i64 0] 3)
        have k3 := heap_alloc_new (((wr.alloc (.cells #[.int .i64 0] 3)).alloc (.cells #[.int .i64 0] 3)).alloc (.cells #[.int .i64 0] 3)) (.cells #[.bool true] 4)
        rw [e1] at k1
        rw [e2] at k2
        rw [e3, hw1] at k3
        have HS1 := Kp.mk (show w1.heap.size = wr.heap.size + 4 by rw [← hw1, World.size_alloc, e3])
        have HC1 := Kp.mk (show CbI wr.heap.size wr 0 0 0 w1 by
          refine ⟨?_, ?_, ?_, k3, ?_⟩
          · rw [← hw1]; exact blk_alloc (blk_alloc (blk_alloc (heap_alloc_new wr _)))
          · rw [← hw1]; exact blk_alloc (blk_alloc k1)
          · rw [← hw1]; exact blk_alloc k2
          · rw [← hw1]; exact (((Below.refl _ _).alloc (Nat.le_refl _) _ |>.alloc (by rw [e1]; omega) _).alloc (by rw [e2]; omega) _).alloc (by rw [e3]; omega) _)
        rw [hw1]
        clear e1 e2 e3 k1 k2 k3 hw1
        have HMR := Kp.mk (show wr.heap[w.heap.size]? = some (.cells #[.int .i64 most] 3 (0, 0)) from (HBK.out.block _ hmz).trans HMZ.out)
        have HBW := Kp.mk (HBZ.out.trans (HBK.out.mono HBZ.out.size))
        generalize hH : wr.heap.size = H at *
        refine (trowi_any _ w1).mono ?_
        rintro e w2 ⟨rfl, rfl⟩
        have HR1 := Kp.mk (heap_alloc_new w1 (.cells #[.pointer (some ⟨wz.heap.size, 0, none⟩)] 42))
        have HC2 := Kp.mk (HC1.out.kpt ((Below.refl w1.heap.size w1).alloc (Nat.le_refl _) (.cells #[.pointer (some ⟨wz.heap.size, 0, none⟩)] 42)))
        rw [HS1.out] at HR1 ⊢
        have HT1 := Kp.mk (trc1_any H wz.heap.size wz.heap.size l.length (H + 4) F wr _ HT.out (by omega) hH HC2.out (by omega) HR1.out)
        clear HC1 HC2 HR1
        have hnf : ∀ W, (Go.binOp .eql 52 (.func (.func 40) #[] #[.pointer (some ⟨H + 4, 0, none⟩)]) .nilFunc).run Try.prog W = .ok (.bool false) W := fun W => by kernel_rfl
        go_wp2_with fail
        refine HT1.out.mono ?_
        rintro e w3 ⟨rfl, L, la, hL, hc3, hr3⟩
        have HL := Kp.mk hL
        have HC3 := Kp.mk hc3
        have HR3 := Kp.mk hr3
        clear HT1 hL hc3 hr3
        have hz3 : H + 4 < w3.heap.size := blk_lt HR3.out
        have hwH : w.heap.size < H := by have := blk_lt HMR.out; omega
        have HG3 := Kp.mk (heap_alloc_new w3 (.cells #[.int .i64 0] 3))
        have HBA3 := Kp.mk (HC3.out.bl.alloc (by omega) (.cells #[.int .i64 0] 3))
        have HT2 := Kp.mk (trc2_any H w3.heap.size w.heap.size wz.heap.size wz.heap.size l.length (H + 4) most F (w3.alloc (.cells #[.int .i64 0] 3)) (HT.out.below (by rw [hH]; exact HBA3.out)) (by omega) (by omega) hwH hz3 HG3.out ((HBA3.out.block _ hwH).trans HMR.out) (blk_alloc HR3.out))
        go_wp2_with fail
        refine HT2.out.mono ?_
        rintro e w4 ⟨rfl, L', hL', hf4, hb4⟩
        have hLL := hL'.uniq HL.out
        subst hLL
        have B4 := Kp.mk hb4
        have HBL4 := Kp.mk (HBA3.out.trans (hb4.mono (by omega)))
        have HB4 := Kp.mk (HBW.out.trans (HBL4.out.mono (by omega)))
        have HT4 := Kp.mk (HT.out.below (by rw [hH]; exact HBL4.out))
        have HSUM := Kp.mk (fun W (hW : Below w4.heap.size w4 W) => show Calls Try.prog 18 #[.pointer (some ⟨wz.heap.size, 0, none⟩)] W fun e w' => e = .returned (.int .i64 (sumI L')) ∧ Below w4.heap.size w4 w' from (tsums_any wz.heap.size wz.heap.size l.length F W (HT4.out.below hW) (by omega)).mono fun e w' ⟨L2, g1, g2, g3⟩ => ⟨by rw [g2, g1.uniq HL.out], Below.trans hW (g3.mono hW.size)⟩)
        have HP := Kp.mk (fun (q : Nat) (o : Obj) (h1 : w4.heap[q]? = some o) (p : InS (fun W => Below w4.heap.size w4 W)) => (p.ok.block q (blk_lt h1)).trans h1)
        have n0 := (hb4.block H (by omega)).trans (blk_alloc HC3.out.s)
        have n2 := (hb4.block (H + 2) (by omega)).trans (blk_alloc HC3.out.m)
        have n3 := (hb4.block (H + 3) (by omega)).trans (blk_alloc HC3.out.o)
        have nm := (hb4.block w.heap.size (by omega)).trans ((HBA3.out.block _ hwH).trans HMR.out)
        have p0 : ∀ p : InS (fun W => Below w4.heap.size w4 W), p.w.cell? ⟨H, 0, none⟩ = some (.int .i64 (sumI L')) := fun p => blk_cell (i := 0) (HP.out _ _ n0 p) rfl
        have p1 : ∀ p : InS (fun W => Below w4.heap.size w4 W), p.w.cell? ⟨H + 2, 0, none⟩ = some (.int .i64 (L'.length : Nat)) := fun p => blk_cell (i := 0) (HP.out _ _ n2 p) rfl
        have p2 : ∀ p : InS (fun W => Below w4.heap.size w4 W), p.w.cell? ⟨H + 3, 0, none⟩ = some (.bool true) := fun p => blk_cell (i := 0) (HP.out _ _ n3 p) rfl
        have p3 : ∀ p : InS (fun W => Below w4.heap.size w4 W), p.w.cell? ⟨w.heap.size, 0, none⟩ = some (.int .i64 most) := fun p => blk_cell (i := 0) (HP.out _ _ nm p) rfl
        have hln : L'.length ≤ 100 := by have := hL'.1; omega
        clear hL' hb4 HT2 n0 n2 n3 nm
        rcases (show most < 1 ∨ most = 1 ∨ 1 < most by omega) with hm | hm | hm
        · have hv : max most 1 = 1 := by omega
          rw [hv] at hf4
          rcases (show L'.length = 0 ∨ L'.length = 1 ∨ 1 < L'.length by omega) with h | h | h
          · have hv2 : min (L'.length : Int) 1 = 0 := by omega
            rw [hv2] at hf4
            have p4 : ∀ p : InS (fun W => Below w4.heap.size w4 W), p.w.cell? ⟨w3.heap.size, 0, none⟩ = some (.int .i64 0) := fun p => blk_cell (i := 0) (HP.out _ _ hf4 p) rfl
            rw [h, show (((0 : Nat) : Nat) : Int) = 0 from rfl] at p1
            have hmin : min (0 : Int) 1 = 0 := by omega
            go_upto_region 25 with fail
            haveI hne : Nonempty (InS (fun W => Below w4.heap.size w4 W)) := ⟨⟨w4, Below.refl _ _⟩⟩
            refine region_in (fun W => Below w4.heap.size w4 W) (by kernel_rfl) (by kernel_rfl) (gdrewN w4 1) ?_
            repeat (go_big_quiet_step (first
              | (go_at_call 18; exact call_in fun W h => HSUM.out W h)
              | (go_at_call 9; exact call_in fun W (h : Below w4.heap.size w4 W) => (HLV.out W).mono fun _ _ h2 => ⟨h2.1, h.trans (h2.2.mono h.size)⟩)))
            refine wpQuiet_nil ?_
            intro _ hw'
            obtain ⟨wq, rfl⟩ := hw'
            have HQ := Kp.mk wq.ok
            clear hne p0 p1 p2 p3 p4
            generalize wq.w = wx at *
            go_wp2_with fail
            go_ret
            exact ⟨rfl, HB4.out.trans (HQ.out.mono HB4.out.size)⟩
          · have hv2 : min (L'.length : Int) 1 = 1 := by omega
            rw [hv2] at hf4
            have p4 : ∀ p : InS (fun W => Below w4.heap.size w4 W), p.w.cell? ⟨w3.heap.size, 0, none⟩ = some (.int .i64 1) := fun p => blk_cell (i := 0) (HP.out _ _ hf4 p) rfl
            rw [h] at p1
            go_upto_region 25 with fail
            haveI hne : Nonempty (InS (fun W => Below w4.heap.size w4 W)) := ⟨⟨w4, Below.refl _ _⟩⟩
            refine region_in (fun W => Below w4.heap.size w4 W) (by kernel_rfl) (by kernel_rfl) (gdrewN w4 1) ?_
            repeat (go_big_quiet_step (first
              | (go_at_call 18; exact call_in fun W h => HSUM.out W h)
              | (go_at_call 9; exact call_in fun W (h : Below w4.heap.size w4 W) => (HLV.out W).mono fun _ _ h2 => ⟨h2.1, h.trans (h2.2.mono h.size)⟩)))
            refine wpQuiet_nil ?_
            intro _ hw'
            obtain ⟨wq, rfl⟩ := hw'
            have HQ := Kp.mk wq.ok
            clear hne p0 p1 p2 p3 p4
            generalize wq.w = wx at *
            go_wp2_with fail
            go_ret
            exact ⟨rfl, HB4.out.trans (HQ.out.mono HB4.out.size)⟩
          · have hv2 : min (L'.length : Int) 1 = 1 := by omega
            rw [hv2] at hf4
            have p4 : ∀ p : InS (fun W => Below w4.heap.size w4 W), p.w.cell? ⟨w3.heap.size, 0, none⟩ = some (.int .i64 1) := fun p => blk_cell (i := 0) (HP.out _ _ hf4 p) rfl
            have h9 : ¬ (L'.length : Int) < 1 := by omega
            have h8 : (1 : Int) < (L'.length : Int) := by omega
            go_upto_region 25 with fail
            haveI hne : Nonempty (InS (fun W => Below w4.heap.size w4 W)) := ⟨⟨w4, Below.refl _ _⟩⟩
            refine region_in (fun W => Below w4.heap.size w4 W) (by kernel_rfl) (by kernel_rfl) (gdrewN w4 1) ?_
            repeat (go_big_quiet_step (first
              | (go_at_call 18; exact call_in fun W h => HSUM.out W h)
              | (go_at_call 9; exact call_in fun W (h : Below w4.heap.size w4 W) => (HLV.out W).mono fun _ _ h2 => ⟨h2.1, h.trans (h2.2.mono h.size)⟩)))
            refine wpQuiet_nil ?_
            intro _ hw'
            obtain ⟨wq, rfl⟩ := hw'
            have HQ := Kp.mk wq.ok
            clear hne p0 p1 p2 p3 p4
            generalize wq.w = wx at *
            go_wp2_with fail
            go_ret
            exact ⟨rfl, HB4.out.trans (HQ.out.mono HB4.out.size)⟩
        · subst hm
          have hv : max (1 : Int) 1 = 1 := by omega
          rw [hv] at hf4
          rcases (show L'.length = 0 ∨ L'.length = 1 ∨ 1 < L'.length by omega) with h | h | h
          · have hv2 : min (L'.length : Int) 1 = 0 := by omega
            rw [hv2] at hf4
            have p4 : ∀ p : InS (fun W => Below w4.heap.size w4 W), p.w.cell? ⟨w3.heap.size, 0, none⟩ = some (.int .i64 0) := fun p => blk_cell (i := 0) (HP.out _ _ hf4 p) rfl
            rw [h, show (((0 : Nat) : Nat) : Int) = 0 from rfl] at p1
            have hmin : min (0 : Int) 1 = 0 := by omega
            go_upto_region 25 with fail
            haveI hne : Nonempty (InS (fun W => Below w4.heap.size w4 W)) := ⟨⟨w4, Below.refl _ _⟩⟩
            refine region_in (fun W => Below w4.heap.size w4 W) (by kernel_rfl) (by kernel_rfl) (gdrewN w4 1) ?_
            repeat (go_big_quiet_step (first
              | (go_at_call 18; exact call_in fun W h => HSUM.out W h)
              | (go_at_call 9; exact call_in fun W (h : Below w4.heap.size w4 W) => (HLV.out W).mono fun _ _ h2 => ⟨h2.1, h.trans (h2.2.mono h.size)⟩)))
            refine wpQuiet_nil ?_
            intro _ hw'
            obtain ⟨wq, rfl⟩ := hw'
            have HQ := Kp.mk wq.ok
            clear hne p0 p1 p2 p3 p4
            generalize wq.w = wx at *
            go_wp2_with fail
            go_ret
            exact ⟨rfl, HB4.out.trans (HQ.out.mono HB4.out.size)⟩
          · have hv2 : min (L'.length : Int) 1 = 1 := by omega
            rw [hv2] at hf4
            have p4 : ∀ p : InS (fun W => Below w4.heap.size w4 W), p.w.cell? ⟨w3.heap.size, 0, none⟩ = some (.int .i64 1) := fun p => blk_cell (i := 0) (HP.out _ _ hf4 p) rfl
            rw [h] at p1
            go_upto_region 25 with fail
            haveI hne : Nonempty (InS (fun W => Below w4.heap.size w4 W)) := ⟨⟨w4, Below.refl _ _⟩⟩
            refine region_in (fun W => Below w4.heap.size w4 W) (by kernel_rfl) (by kernel_rfl) (gdrewN w4 1) ?_
            repeat (go_big_quiet_step (first
              | (go_at_call 18; exact call_in fun W h => HSUM.out W h)
              | (go_at_call 9; exact call_in fun W (h : Below w4.heap.size w4 W) => (HLV.out W).mono fun _ _ h2 => ⟨h2.1, h.trans (h2.2.mono h.size)⟩)))
            refine wpQuiet_nil ?_
            intro _ hw'
            obtain ⟨wq, rfl⟩ := hw'
            have HQ := Kp.mk wq.ok
            clear hne p0 p1 p2 p3 p4
            generalize wq.w = wx at *
            go_wp2_with fail
            go_ret
            exact ⟨rfl, HB4.out.trans (HQ.out.mono HB4.out.size)⟩
          · have hv2 : min (L'.length : Int) 1 = 1 := by omega
            rw [hv2] at hf4
            have p4 : ∀ p : InS (fun W => Below w4.heap.size w4 W), p.w.cell? ⟨w3.heap.size, 0, none⟩ = some (.int .i64 1) := fun p => blk_cell (i := 0) (HP.out _ _ hf4 p) rfl
            have h9 : ¬ (L'.length : Int) < 1 := by omega
            have h8 : (1 : Int) < (L'.length : Int) := by omega
            go_upto_region 25 with fail
            haveI hne : Nonempty (InS (fun W => Below w4.heap.size w4 W)) := ⟨⟨w4, Below.refl _ _⟩⟩
            refine region_in (fun W => Below w4.heap.size w4 W) (by kernel_rfl) (by kernel_rfl) (gdrewN w4 1) ?_
            repeat (go_big_quiet_step (first
              | (go_at_call 18; exact call_in fun W h => HSUM.out W h)
              | (go_at_call 9; exact call_in fun W (h : Below w4.heap.size w4 W) => (HLV.out W).mono fun _ _ h2 => ⟨h2.1, h.trans (h2.2.mono h.size)⟩)))
            refine wpQuiet_nil ?_
            intro _ hw'
            obtain ⟨wq, rfl⟩ := hw'
            have HQ := Kp.mk wq.ok
            clear hne p0 p1 p2 p3 p4
            generalize wq.w = wx at *
            go_wp2_with fail
            go_ret
            exact ⟨rfl, HB4.out.trans (HQ.out.mono HB4.out.size)⟩
        · have hv : max most 1 = most := by omega
          rw [hv] at hf4
          by_cases h : most < (L'.length : Int)
          · have hv2 : min (L'.length : Int) most = most := by omega
            rw [hv2] at hf4
            have p4 : ∀ p : InS (fun W => Below w4.heap.size w4 W), p.w.cell? ⟨w3.heap.size, 0, none⟩ = some (.int .i64 most) := fun p => blk_cell (i := 0) (HP.out _ _ hf4 p) rfl
            have h9 : ¬ (L'.length : Int) < most := by omega
            go_upto_region 25 with fail
            haveI hne : Nonempty (InS (fun W => Below w4.heap.size w4 W)) := ⟨⟨w4, Below.refl _ _⟩⟩
            refine region_in (fun W => Below w4.heap.size w4 W) (by kernel_rfl) (by kernel_rfl) (gdrewN w4 1) ?_
            repeat (go_big_quiet_step (first
              | (go_at_call 18; exact call_in fun W h => HSUM.out W h)
              | (go_at_call 9; exact call_in fun W (h : Below w4.heap.size w4 W) => (HLV.out W).mono fun _ _ h2 => ⟨h2.1, h.trans (h2.2.mono h.size)⟩)))
            refine wpQuiet_nil ?_
            intro _ hw'
            obtain ⟨wq, rfl⟩ := hw'
            have HQ := Kp.mk wq.ok
            clear hne p0 p1 p2 p3 p4
            generalize wq.w = wx at *
            go_wp2_with fail
            go_ret
            exact ⟨rfl, HB4.out.trans (HQ.out.mono HB4.out.size)⟩
          · have hv2 : min (L'.length : Int) most = (L'.length : Int) := by omega
            rw [hv2] at hf4
            have p4 : ∀ p : InS (fun W => Below w4.heap.size w4 W), p.w.cell? ⟨w3.heap.size, 0, none⟩ = some (.int .i64 (L'.length : Nat)) := fun p => blk_cell (i := 0) (HP.out _ _ hf4 p) rfl
            go_upto_region 25 with fail
            haveI hne : Nonempty (InS (fun W => Below w4.heap.size w4 W)) := ⟨⟨w4, Below.refl _ _⟩⟩
            refine region_in (fun W => Below w4.heap.size w4 W) (by kernel_rfl) (by kernel_rfl) (gdrewN w4 1) ?_
            repeat (go_big_quiet_step (first
              | (go_at_call 18; exact call_in fun W h => HSUM.out W h)
              | (go_at_call 9; exact call_in fun W (h : Below w4.heap.size w4 W) => (HLV.out W).mono fun _ _ h2 => ⟨h2.1, h.trans (h2.2.mono h.size)⟩)))
            refine wpQuiet_nil ?_
            intro _ hw'
            obtain ⟨wq, rfl⟩ := hw'
            have HQ := Kp.mk wq.ok
            clear hne p0 p1 p2 p3 p4
            generalize wq.w = wx at *
            go_wp2_with fail
            go_ret
            exact ⟨rfl, HB4.out.trans (HQ.out.mono HB4.out.size)⟩
  · have hd : decide (100 < (l.length : Int)) = true := decide_eq_true (by omega)
    go_wp2_with fail
    refine (HLV.out _).mono ?_
    rintro e w3 ⟨rfl, hb3⟩
    have HB3 := Kp.mk (HA0.out.trans (hb3.mono HA0.out.size))
    clear hb3
    go_wp2_with fail
    go_ret
    exact ⟨rfl, HB3.out⟩
theorem tcounts_arg (v0 v1 : Value) (w : World) (h0 : Arg Try.prog w 41 v0) (h1 : Arg Try.prog w 3 v1) :
    Calls Try.prog 4 #[v0, v1] w fun e w' => e = .returned (.bool true) ∧ Below w.heap.size w w' := by
  obtain ⟨l, hl, hz⟩ := act_arg v0 w h0
  obtain ⟨m, rfl, hy⟩ := h1.int Try.underlying3
  obtain ⟨b0, b1⟩ := bounds_i64 hy
  exact tcounts_walk v0 l m w hl hz b0 b1
end Go.Proofs.Ytocnecbhpofdgaa
