/- Trailers (layer 26): fields with trailers joined, on both sides. -/
import Derived.Test.YtpgeheblmpjndaaTrd
namespace Go.Proofs.Ytpgeheblmpjndaa
open Go.RowKit
set_option linter.unusedVariables false
set_option linter.unusedSimpArgs false

def noneB (l : List Fld) (x : ByteArray) : Bool := decide ((hAll l x).length = 0)
def mrgL (l ts : List Fld) : List Fld := l ++ (keepL ts).filter fun p => noneB l p.1
def mrgT (l K : List Fld) (k : Nat) : List Fld := l ++ (K.take k).filter fun p => noneB l p.1
theorem mrgT_zero (l K : List Fld) : mrgT l K 0 = l := by simp [mrgT]
theorem mrgT_step {l K : List Fld} {k : Nat} (h : k < K.length) : mrgT l K (k + 1) = mrgT l K k ++ (if noneB l K[k].1 = true then [K[k]] else []) := by
  unfold mrgT
  rw [List.take_succ_eq_append_getElem h, List.filter_append, List.append_assoc]
  congr 2
  cases hf : noneB l K[k].1 <;> simp [hf]
theorem mrgT_len (l K : List Fld) (k : Nat) : (mrgT l K k).length ≤ l.length + K.length := by
  unfold mrgT
  rw [List.length_append]
  have h1 := List.length_filter_le (fun p : Fld => noneB l p.1) (K.take k)
  have h2 : (K.take k).length ≤ K.length := by rw [List.length_take]; omega
  omega
theorem rdf_grown {w5 w' : World} {o : Obj} {vK vs : Value} {K : List Fld} (h : RdF w5 vK K) (hg : (w5.alloc o).grownBy w' vs.ownBlock) (hd : ∀ b, vs.ownBlock = some b → vK.ownBlock ≠ some b) : RdF w' vK K :=
  h.stays (by have := hg.size; simp at this; omega) fun k hk hv => (hg.block k (by simp; omega) (fun e => hd k e.symm hv)).trans (Below.heap_alloc w5 o k hk)
set_option maxRecDepth 100000 in
set_option maxHeartbeats 1000000 in
theorem clone_any (v : Value) (l : List Fld) (w : World) (hv : RdF w v l) (hl : l.length ≤ 10000) :
    Calls Try.prog 75 #[v] w (RetF l w) := by
  have hBA := (Below.refl w.heap.size w).alloc (Nat.le_refl _) (.cells #[] 43)
  have HVA := Kp.mk (hv.below hBA)
  have HO := Kp.mk (World.ownsRow_lit (base := w.heap.size) (e := 43) (size := 2) w #[] 0 (Nat.le_refl _) (by unfold maxLen; omega) rfl)
  have HBA := Kp.mk hBA
  have hszA : w.heap.size ≤ (w.alloc (.cells #[] 43)).heap.size := hBA.size
  have hlen0 : (0 + l.length) * 32 ≤ 140737488355328 := by omega
  have hmx0 : 0 + l.length ≤ maxLen := by unfold maxLen; omega
  obtain ⟨a, cap, rfl, -, -, h4⟩ := hv
  clear hBA
  cases a with
  | none =>
    have h0 : l = [] := by
      rcases Nat.eq_zero_or_pos l.length with h0 | h0
      · exact List.eq_nil_of_length_eq_zero h0
      · obtain ⟨b, off, hb, _⟩ := h4 h0
        cases hb
    subst h0
    clear h4
    have hE : ∀ w : World, (binOp .eql 22 (.slice none 0 cap) (.slice none 0 0)).run Try.prog w = .ok (.bool true) w := fun w => by kernel_rfl
    go_enter Try.func75, Try.ntmps75
    go_wp2_with fail
    go_ret
    exact ⟨_, rfl, World.ownsRow_nil _ _ _ _, Below.refl _ _⟩
  | some ad =>
    clear h4
    have hE : ∀ w : World, (binOp .eql 22 (.slice (some ad) l.length cap) (.slice none 0 0)).run Try.prog w = .ok (.bool false) w := fun w => by kernel_rfl
    go_enter Try.func75, Try.ntmps75
    go_wp2_with (at_builtin; refine app_list rfl _ _ _ _ rfl Try.underlying22 _ Try.infoFH rfl w.heap.size _ 0 _ rfl HO.out _ rfl l HVA.out hlen0 hmx0 hszA ?_; intro v1 w1 h1 h2; rw [Nat.zero_add] at h1; have HB1 := Kp.mk (HBA.out.grown h2 hszA fun k hk => (HO.out.lt k hk).1); have HO1 := Kp.mk h1; clear h1 h2)
    go_ret
    exact ⟨_, rfl, HO1.out, HB1.out⟩
set_option maxRecDepth 100000 in
set_option maxHeartbeats 2000000 in
theorem merge_any (v1 v2 : Value) (l ts : List Fld) (w : World) (hv1 : RdF w v1 l) (hv2 : RdF w v2 ts) (z1 : ∀ p ∈ l, FldSm p) (z2 : ∀ p ∈ ts, FldSm p) (hl : l.length ≤ 10000) (hl2 : ts.length ≤ 10000) :
    Calls Try.prog 32 #[v1, v2] w (RetF (mrgL l ts) w) := by
  have H1 := Kp.mk hv1
  have H2 := Kp.mk hv2
  have Z1 := Kp.mk z1
  have Z2 := Kp.mk z2
  have ZK := Kp.mk (keepL_sm z2)
  have HKL := Kp.mk (keepL_len ts)
  have HML := Kp.mk (show mrgL l ts = mrgT l (keepL ts) (keepL ts).length by unfold mrgL mrgT; rw [List.take_length])
  clear z1 z2 hv1 hv2
  go_enter Try.func32, Try.ntmps32
  go_wp2_with fail
  refine (clone_any v1 l _ H1.out hl).mono ?_
  rintro e w1 ⟨vM, rfl, hoM, hb1⟩
  have HB1 := Kp.mk hb1
  obtain ⟨a3, c3, rfl⟩ := own_lenH hoM
  have HM := Kp.mk hoM
  clear hb1 hoM
  go_wp2_with fail
  refine (keep_any v2 ts _ (H2.out.below HB1.out) Z2.out (by omega)).mono ?_
  rintro e w2 ⟨vK, rfl, hoK, hb2⟩
  have HB2 := Kp.mk (HB1.out.trans (hb2.mono HB1.out.size))
  have HM2 := Kp.mk (own_bel HM.out hb2)
  have HKR := Kp.mk (rdf_own hoK)
  have LK := Kp.mk (fun b h => (hoK.lt b h))
  have LM := Kp.mk (fun b h => (HM.out.lt b h).2)
  obtain ⟨a4, c4, rfl⟩ := own_lenH hoK
  have hkl := HKL.out
  clear hb2 hoK HM
  generalize keepL ts = K at *
  go_wp2_with fail
  go_loopw [5, 13] (fun vs i wr => ∃ k : Nat, k ≤ K.length ∧ i = .int .i64 k ∧ wr.ownsRow w.heap.size 43 2 vs (mrgT l K k).length (fvH (mrgT l K k)) ∧ Below w.heap.size w wr ∧ RdF wr (.slice a4 K.length c4) K ∧ (∀ b, vs.ownBlock = some b → (Value.slice a4 K.length c4).ownBlock ≠ some b) ∧ w2.heap.size ≤ wr.heap.size) (fun _ i _ => K.length - (intOf i).toNat)
  case atStart =>
    refine ⟨0, by omega, rfl, ?_, HB2.out, HKR.out, fun b h h2 => ?_, Nat.le_refl _⟩
    · rw [mrgT_zero]; exact HM2.out
    · have := LM.out b h; have := (LK.out b h2).1; omega
  case round =>
    obtain ⟨k, hk, rfl, hown, hb, hkr, hdj, hs2⟩ := hrel
    obtain ⟨a2, cp, rfl⟩ := own_lenH hown
    have HB := Kp.mk hb
    have HO := Kp.mk hown
    have HK := Kp.mk hkr
    have HDJ := Kp.mk hdj
    have hsz := hb.size
    have hle := mrgT_len l K k
    clear hown hb hdj
    by_cases hlt : k < K.length
    · obtain ⟨g, o, rfl, hgl, d0⟩ := rdf_cells hkr (by omega)
      obtain ⟨c1, c2⟩ := d0 k hlt
      obtain ⟨m1, m2⟩ := ZK.out K[k] (List.getElem_mem hlt)
      have q0 : (0 : Int) ≤ (k : Int) := by omega
      have q1 : (k : Int) < (K.length : Int) := by omega
      have HT := Kp.mk (mrgT_step (l := l) hlt)
      clear d0 hkr
      generalize K[k] = p at *
      obtain ⟨x, y⟩ := p
      simp only at c1 c2 m1 m2
      have HBA := Kp.mk (show Below w.heap.size w (wr.alloc (.cells #[.string x, .string y] 43)) from HB.out.alloc hsz _)
      have HA := Kp.mk (show Below wr.heap.size wr (wr.alloc (.cells #[.string x, .string y] 43)) from (Below.refl _ _).alloc (Nat.le_refl _) _)
      have HKN := Kp.mk (heap_alloc_new wr (.cells #[.string x, .string y] 43))
      go_wp2_with fail
      refine (hcount_any v1 l x _ (H1.out.below HBA.out) Z1.out (by omega) m1).mono ?_
      rintro e w5 ⟨rfl, hb5⟩
      have hk5 := (hb5.block wr.heap.size (by simp)).trans HKN.out
      have d1 := blk_cell (i := 0) hk5 rfl
      have d2 := blk_cell (i := 1) hk5 rfl
      have HB5 := Kp.mk (HBA.out.trans (hb5.mono HBA.out.size))
      have HO5 := Kp.mk (own_bel (HO.out.alloc (.cells #[.string x, .string y] 43)) hb5)
      have HK5 := Kp.mk ((HK.out.below HA.out).below hb5)
      have hs5 : w2.heap.size ≤ w5.heap.size := by have := hb5.size; simp at this; omega
      clear hb5 hk5
      have hsz5 := HB5.out.size
      by_cases hn : (hAll l x).length = 0
      · have q5 : (((hAll l x).length : Int) == 0) = true := by rw [hn]; rfl
        have HT2 := Kp.mk (show mrgT l K (k + 1) = mrgT l K k ++ [(x, y)] by rw [HT.out]; simp [noneB, hn])
        have hlen : ((mrgT l K k).length + 1) * 32 ≤ 140737488355328 := by omega
        have hmx : (mrgT l K k).length + 1 ≤ maxLen := by unfold maxLen; omega
        clear hn
        go_wp2_with (at_builtin; refine app_any rfl _ _ _ _ rfl Try.underlying22 _ _ _ Try.infoFH rfl (by omega) w.heap.size _ _ _ rfl HO5.out #[.string x, .string y] rfl (fun u hu => by simp at hu; rcases hu with rfl | rfl <;> rfl) _ rfl rfl hlen hmx hsz5 ?_; intro g' cap' w' h1 h2 h3; have G1 := Kp.mk h1; have G2 := Kp.mk h2; have G3 := Kp.mk h3; clear h1 h2 h3)
        go_roundw
        case rel =>
          have hgb := grown_bel HO5.out hsz5 G2.out
          refine ⟨k + 1, by omega, by go_num, ?_, HB5.out.trans hgb, rdf_grown HK5.out G2.out HDJ.out, fun b h h2 => ?_, ?_⟩
          · rw [HT2.out, List.length_append, fvH_snoc]
            exact G1.out
          · rcases G3.out with h3 | h3
            · exact HDJ.out b (h3.trans h) h2
            · have h4 := (LK.out b h2).2
              have h5 : some g' = some b := h
              cases h5
              omega
          · have := G2.out.size; simp at this; omega
        case measure => simp [intOf]; omega
      · have q5 : (((hAll l x).length : Int) == 0) = false := by rw [beq_eq_false_iff_ne]; omega
        have HT2 := Kp.mk (show mrgT l K (k + 1) = mrgT l K k by rw [HT.out]; simp [noneB, hn])
        clear hn
        go_wp2_with fail
        go_roundw
        case rel => exact ⟨k + 1, by omega, by go_num, by rw [HT2.out]; exact HO5.out, HB5.out, HK5.out, HDJ.out, hs5⟩
        case measure => simp [intOf]; omega
    · have hke : k = K.length := by omega
      subst hke
      go_wp2_with fail
      go_ret
      refine ⟨_, rfl, ?_, HB.out⟩
      rw [HML.out]
      exact HO.out
set_option maxRecDepth 100000 in
set_option maxHeartbeats 2000000 in
theorem rmerge_any (v1 v2 : Value) (l ts : List Fld) (w : World) (hv1 : RdF w v1 l) (hv2 : RdF w v2 ts) (z1 : ∀ p ∈ l, FldSm p) (z2 : ∀ p ∈ ts, FldSm p) (hl : l.length ≤ 10000) (hl2 : ts.length ≤ 10000) :
    Calls Try.prog 33 #[v1, v2] w (RetF (mrgL l ts) w) := by
  have H1 := Kp.mk hv1
  have H2 := Kp.mk hv2
  have Z1 := Kp.mk z1
  have Z2 := Kp.mk z2
  have ZK := Kp.mk (keepL_sm z2)
  have HKL := Kp.mk (keepL_len ts)
  have HML := Kp.mk (show mrgL l ts = mrgT l (keepL ts) (keepL ts).length by unfold mrgL mrgT; rw [List.take_length])
  have hBA := (Below.refl w.heap.size w).alloc (Nat.le_refl _) (.cells #[] 43)
  have HVA := Kp.mk (hv1.below hBA)
  have HO0 := Kp.mk (World.ownsRow_lit (base := w.heap.size) (e := 43) (size := 2) w #[] 0 (Nat.le_refl _) (by unfold maxLen; omega) rfl)
  have HBA := Kp.mk hBA
  have hszA : w.heap.size ≤ (w.alloc (.cells #[] 43)).heap.size := hBA.size
  have hlen0 : (0 + l.length) * 32 ≤ 140737488355328 := by omega
  have hmx0 : 0 + l.length ≤ maxLen := by unfold maxLen; omega
  obtain ⟨a1, cp1, rfl, -, -, -⟩ := hv1
  clear z1 z2 hv2
  go_enter Try.func33, Try.ntmps33
  skip
  go_upto_region 1 with fail
  go_wp2_with (at_builtin; refine app_list rfl _ _ _ _ rfl Try.underlying22 _ Try.infoFH rfl w.heap.size _ 0 _ rfl HO0.out _ rfl l HVA.out hlen0 hmx0 hszA ?_; intro vM w1 h1 h2; rw [Nat.zero_add] at h1; have HB1 := Kp.mk (HBA.out.grown h2 hszA fun k hk => (HO0.out.lt k hk).1); have HM := Kp.mk h1; obtain ⟨a3, c3, rfl⟩ := own_lenH h1; clear h1 h2)
  refine (rkeep_any v2 ts _ (H2.out.below HB1.out) Z2.out (by omega)).mono ?_
  rintro e w2 ⟨vK, rfl, hoK, hb2⟩
  have HB2 := Kp.mk (HB1.out.trans (hb2.mono HB1.out.size))
  have HM2 := Kp.mk (own_bel HM.out hb2)
  have HKR := Kp.mk (rdf_own hoK)
  have LK := Kp.mk (fun b h => (hoK.lt b h))
  have LM := Kp.mk (fun b h => (HM.out.lt b h).2)
  obtain ⟨a4, c4, rfl⟩ := own_lenH hoK
  have hkl := HKL.out
  clear hb2 hoK HM
  generalize keepL ts = K at *
  go_wp2_with fail
  go_loopw [5, 7] (fun vs i wr => ∃ k : Nat, k ≤ K.length ∧ i = .int .i64 k ∧ wr.ownsRow w.heap.size 43 2 vs (mrgT l K k).length (fvH (mrgT l K k)) ∧ Below w.heap.size w wr ∧ RdF wr (.slice a4 K.length c4) K ∧ (∀ b, vs.ownBlock = some b → (Value.slice a4 K.length c4).ownBlock ≠ some b) ∧ w2.heap.size ≤ wr.heap.size) (fun _ i _ => K.length - (intOf i).toNat)
  case atStart =>
    refine ⟨0, by omega, rfl, ?_, HB2.out, HKR.out, fun b h h2 => ?_, Nat.le_refl _⟩
    · rw [mrgT_zero]; exact HM2.out
    · have := LM.out b h; have := (LK.out b h2).1; omega
  case round =>
    obtain ⟨k, hk, rfl, hown, hb, hkr, hdj, hs2⟩ := hrel
    obtain ⟨a2, cp, rfl⟩ := own_lenH hown
    have HB := Kp.mk hb
    have HO := Kp.mk hown
    have HK := Kp.mk hkr
    have HDJ := Kp.mk hdj
    have hsz := hb.size
    have hle := mrgT_len l K k
    clear hown hb hdj
    by_cases hlt : k < K.length
    · obtain ⟨g, o, rfl, hgl, d0⟩ := rdf_cells hkr (by omega)
      obtain ⟨c1, c2⟩ := d0 k hlt
      obtain ⟨m1, m2⟩ := ZK.out K[k] (List.getElem_mem hlt)
      have q0 : (0 : Int) ≤ (k : Int) := by omega
      have q1 : (k : Int) < (K.length : Int) := by omega
      have HT := Kp.mk (mrgT_step (l := l) hlt)
      clear d0 hkr
      generalize K[k] = p at *
      obtain ⟨x, y⟩ := p
      simp only at c1 c2 m1 m2
      go_wp2_with fail
      refine (rhall_any _ l x _ (H1.out.below HB.out) Z1.out (by omega) m1).mono ?_
      rintro e w5 ⟨v5, rfl, ho5, hb5⟩
      obtain ⟨a5, c5, rfl⟩ := own_lenH ho5
      have d1 := (hb5.cell (p := ⟨g, o + k * 2, none⟩) hgl).trans c1
      have d2 := (hb5.cell (p := ⟨g, o + k * 2 + 1, none⟩) hgl).trans c2
      have HB5 := Kp.mk (HB.out.trans (hb5.mono hsz))
      have HO5 := Kp.mk (own_bel HO.out hb5)
      have HK5 := Kp.mk (HK.out.below hb5)
      have hs5 : w2.heap.size ≤ w5.heap.size := by have := hb5.size; omega
      clear hb5 c1 c2 ho5
      have hsz5 := HB5.out.size
      by_cases hn : (hAll l x).length = 0
      · have q5 : (((hAll l x).length : Int) == 0) = true := by rw [hn]; rfl
        have HT2 := Kp.mk (show mrgT l K (k + 1) = mrgT l K k ++ [(x, y)] by rw [HT.out]; simp [noneB, hn])
        have hlen : ((mrgT l K k).length + 1) * 32 ≤ 140737488355328 := by omega
        have hmx : (mrgT l K k).length + 1 ≤ maxLen := by unfold maxLen; omega
        clear hn
        go_wp2_with (at_builtin; refine app_any rfl _ _ _ _ rfl Try.underlying22 _ _ _ Try.infoFH rfl (by omega) w.heap.size _ _ _ rfl HO5.out #[.string x, .string y] rfl (fun u hu => by simp at hu; rcases hu with rfl | rfl <;> rfl) _ rfl rfl hlen hmx hsz5 ?_; intro g' cap' w' h1 h2 h3; have G1 := Kp.mk h1; have G2 := Kp.mk h2; have G3 := Kp.mk h3; clear h1 h2 h3)
        go_roundw
        case rel =>
          have hgb := grown_bel HO5.out hsz5 G2.out
          refine ⟨k + 1, by omega, by go_num, ?_, HB5.out.trans hgb, rdf_grown HK5.out G2.out HDJ.out, fun b h h2 => ?_, ?_⟩
          · rw [HT2.out, List.length_append, fvH_snoc]
            exact G1.out
          · rcases G3.out with h3 | h3
            · exact HDJ.out b (h3.trans h) h2
            · have h4 := (LK.out b h2).2
              have h5 : some g' = some b := h
              cases h5
              omega
          · have := G2.out.size; simp at this; omega
        case measure => simp [intOf]; omega
      · have q5 : (((hAll l x).length : Int) == 0) = false := by rw [beq_eq_false_iff_ne]; omega
        have HT2 := Kp.mk (show mrgT l K (k + 1) = mrgT l K k by rw [HT.out]; simp [noneB, hn])
        clear hn
        go_wp2_with fail
        go_roundw
        case rel => exact ⟨k + 1, by omega, by go_num, by rw [HT2.out]; exact HO5.out, HB5.out, HK5.out, HDJ.out, hs5⟩
        case measure => simp [intOf]; omega
    · have hke : k = K.length := by omega
      subst hke
      go_wp2_with fail
      go_ret
      refine ⟨_, rfl, ?_, HB.out⟩
      rw [HML.out]
      exact HO.out
end Go.Proofs.Ytpgeheblmpjndaa
