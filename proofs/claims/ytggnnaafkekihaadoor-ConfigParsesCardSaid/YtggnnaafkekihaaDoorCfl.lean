/- Settings (layer 13): the law ConfigParses (bin/mkcfl.py). -/
import Derived.Test.YtggnnaafkekihaaDoorCfg
import Derived.Test.YtggnnaafkekihaaDoorCfk
namespace Go.Proofs.YtggnnaafkekihaaDoor
open Go.RowKit
set_option linter.unusedVariables false
set_option linter.unusedSimpArgs false

/-- Both tell one row. -/
theorem both_parse (t : ByteArray) (ht : t.size ≤ 1000) : ∃ (cs : Array Value) (er : Int), cs.size = 18 ∧ cs.all (·.oneCell') = true ∧ ((cs = cfZ ∧ er = 3) ∨ (∃ (x0 au : ByteArray) (c0 c1 c2 c3 c4 c5 c6 c7 c8 c9 c10 c11 c12 c13 c14 c15 : Int), cs = #[.string (x0), .string (au), .int .i64 c0, .int .i64 c1, .int .i64 c2, .int .i64 c3, .int .i64 c4, .int .i64 c5, .int .i64 c6, .int .i64 c7, .int .i64 c8, .int .i64 c9, .int .i64 c10, .int .i64 c11, .int .i64 c12, .int .i64 c13, .int .i64 c14, .int .i64 c15] ∧ er = 0)) ∧
    (∀ w, Calls Tryd.prog 4 #[.string t] w fun e w' => e = .returned (.tuple #[.agg cs, .int .i64 er]) ∧ Below w.heap.size w w') ∧
    (∀ w, Calls Tryd.prog 5 #[.string t] w fun e w' => e = .returned (.tuple #[.agg cs, .int .i64 er]) ∧ Below w.heap.size w w') := by
  obtain ⟨h1, h2⟩ := p_same t
  cases hk : pOk 2147483647 t
  · refine ⟨cfZ, 3, rfl, by decide +kernel, .inl ⟨rfl, rfl⟩, fun w => (cf_parse t w ht).mono ?_, fun w => (rcf_parse t w ht).mono ?_⟩
    · rintro e w' ⟨hb, ⟨-, he⟩ | ⟨hn, -⟩⟩
      · exact ⟨he, hb⟩
      · rw [hk] at hn; cases hn
    · rw [hk] at h1
      rintro e w' ⟨hb, ⟨-, he⟩ | ⟨hn, -⟩⟩
      · exact ⟨he, hb⟩
      · rw [← h1] at hn; cases hn
  · have hL := h2 hk
    rw [hk] at h1
    have hl : (pL 2147483647 t).length = 16 := by rw [pL_len, (pOk_words hk).1]
    obtain ⟨c0, c1, c2, c3, c4, c5, c6, c7, c8, c9, c10, c11, c12, c13, c14, c15, hc⟩ := sixteen hl
    refine ⟨#[.string (pW t 0), .string (pA t), .int .i64 c0, .int .i64 c1, .int .i64 c2, .int .i64 c3, .int .i64 c4, .int .i64 c5, .int .i64 c6, .int .i64 c7, .int .i64 c8, .int .i64 c9, .int .i64 c10, .int .i64 c11, .int .i64 c12, .int .i64 c13, .int .i64 c14, .int .i64 c15], 0, rfl, by simp [Value.oneCell'], .inr ⟨_, _, _, _, _, _, _, _, _, _, _, _, _, _, _, _, _, _, rfl, rfl⟩, fun w => (cf_parse t w ht).mono ?_, fun w => (rcf_parse t w ht).mono ?_⟩
    · rintro e w' ⟨hb, ⟨hn, -⟩ | ⟨-, d0, d1, d2, d3, d4, d5, d6, d7, d8, d9, d10, d11, d12, d13, d14, d15, hd, he⟩⟩
      · rw [hk] at hn; cases hn
      · rw [hc] at hd
        simp only [List.cons.injEq, and_true] at hd
        obtain ⟨rfl, rfl, rfl, rfl, rfl, rfl, rfl, rfl, rfl, rfl, rfl, rfl, rfl, rfl, rfl, rfl⟩ := hd
        exact ⟨he, hb⟩
    · rintro e w' ⟨hb, ⟨hn, -⟩ | ⟨-, d0, d1, d2, d3, d4, d5, d6, d7, d8, d9, d10, d11, d12, d13, d14, d15, hd, he⟩⟩
      · rw [← h1] at hn; cases hn
      · rw [← hL, hc] at hd
        simp only [List.cons.injEq, and_true] at hd
        obtain ⟨rfl, rfl, rfl, rfl, rfl, rfl, rfl, rfl, rfl, rfl, rfl, rfl, rfl, rfl, rfl, rfl⟩ := hd
        exact ⟨he, hb⟩
set_option maxRecDepth 100000 in
set_option maxHeartbeats 4000000 in
theorem cfparses_walk (s : ByteArray) (w : World) (ws : s.size ≤ maxLen) :
    Calls Tryd.prog 3 #[.string s] w fun e w' => e = .returned (.bool true) ∧ Below w.heap.size w w' := by
  unfold maxLen at ws
  obtain ⟨t, htt⟩ : ∃ t, s.extract 0 (min (s.size : Int) 1000).toNat = t := ⟨_, rfl⟩
  have ht : t.size ≤ 1000 := by rw [← htt, ByteArray.size_extract]; omega
  obtain ⟨cs, er, hsz, hone, hform, hp, hr⟩ := both_parse t ht
  have HP := Kp.mk hp
  have HRP := Kp.mk hr
  have HF := Kp.mk hform
  have HSZ := Kp.mk hsz
  have HONE := Kp.mk hone
  clear hp hr hform hsz hone ht
  have HT := Kp.mk htt
  clear htt
  go_enter Tryd.func3, Tryd.ntmps3
  go_wp2_with fail
  rw [HT.out]
  refine (HP.out _).mono ?_
  rintro e w1 ⟨rfl, hb1⟩
  have hg1 := heap_alloc_new w1 (.cells #[.string ⟨#[]⟩, .string ⟨#[]⟩, .int .i64 0, .int .i64 0, .int .i64 0, .int .i64 0, .int .i64 0, .int .i64 0, .int .i64 0, .int .i64 0, .int .i64 0, .int .i64 0, .int .i64 0, .int .i64 0, .int .i64 0, .int .i64 0, .int .i64 0, .int .i64 0] 25)
  have HR1 := Kp.mk (setRow_heap _ _ _ cs _ _ hg1)
  have HG1 := Kp.mk hg1
  have HBA := Kp.mk (below_setRow (hb1.alloc hb1.size (.cells #[.string ⟨#[]⟩, .string ⟨#[]⟩, .int .i64 0, .int .i64 0, .int .i64 0, .int .i64 0, .int .i64 0, .int .i64 0, .int .i64 0, .int .i64 0, .int .i64 0, .int .i64 0, .int .i64 0, .int .i64 0, .int .i64 0, .int .i64 0, .int .i64 0, .int .i64 0] 25)) hb1.size cs)
  clear hg1 hb1
  dsimp only
  repeat ((fail_if_success (with_reducible show Oper.wp _ (Oper.mk _ (.store _ _ _) _ _ _ _) _ _ _ _)); go_step)
  refine wp_store_row _ _ _ (by rfl) _ cs (by rfl) (by rfl) _ _ HG1.out (by rw [HSZ.out]; kernel_rfl) (by rw [HSZ.out]; rfl) HONE.out ?_
  simp only [Act.put]
  have hl1 := blk_lt HR1.out
  generalize (w1.alloc (.cells #[.string ⟨#[]⟩, .string ⟨#[]⟩, .int .i64 0, .int .i64 0, .int .i64 0, .int .i64 0, .int .i64 0, .int .i64 0, .int .i64 0, .int .i64 0, .int .i64 0, .int .i64 0, .int .i64 0, .int .i64 0, .int .i64 0, .int .i64 0, .int .i64 0, .int .i64 0] 25)).setRow w1.heap.size cs = wA at *
  generalize w1.heap.size = b1 at *
  clear HG1
  go_wp2_with fail
  refine (HRP.out _).mono ?_
  rintro e w2 ⟨rfl, hb2⟩
  have hg2 := heap_alloc_new w2 (.cells #[.string ⟨#[]⟩, .string ⟨#[]⟩, .int .i64 0, .int .i64 0, .int .i64 0, .int .i64 0, .int .i64 0, .int .i64 0, .int .i64 0, .int .i64 0, .int .i64 0, .int .i64 0, .int .i64 0, .int .i64 0, .int .i64 0, .int .i64 0, .int .i64 0, .int .i64 0] 25)
  have hsz2 := hb2.size
  have HR2 := Kp.mk (setRow_heap _ _ _ cs _ _ hg2)
  have HG2 := Kp.mk hg2
  have HQ1 := Kp.mk (show ((w2.alloc (.cells #[.string ⟨#[]⟩, .string ⟨#[]⟩, .int .i64 0, .int .i64 0, .int .i64 0, .int .i64 0, .int .i64 0, .int .i64 0, .int .i64 0, .int .i64 0, .int .i64 0, .int .i64 0, .int .i64 0, .int .i64 0, .int .i64 0, .int .i64 0, .int .i64 0, .int .i64 0] 25)).setRow w2.heap.size cs).heap[b1]? = some (.cells cs 25 (0, 0)) from
    (cf_setRow_other _ w (by omega)).trans (blk_alloc ((hb2.block _ hl1).trans HR1.out)))
  have HBB := Kp.mk (below_setRow ((HBA.out.trans (hb2.mono HBA.out.size)).alloc (Nat.le_trans HBA.out.size hsz2) (.cells #[.string ⟨#[]⟩, .string ⟨#[]⟩, .int .i64 0, .int .i64 0, .int .i64 0, .int .i64 0, .int .i64 0, .int .i64 0, .int .i64 0, .int .i64 0, .int .i64 0, .int .i64 0, .int .i64 0, .int .i64 0, .int .i64 0, .int .i64 0, .int .i64 0, .int .i64 0] 25)) (Nat.le_trans HBA.out.size hsz2) cs)
  clear hg2 hb2 hl1 hsz2 HR1 HBA
  dsimp only
  repeat ((fail_if_success (with_reducible show Oper.wp _ (Oper.mk _ (.store _ _ _) _ _ _ _) _ _ _ _)); go_step)
  refine wp_store_row _ _ _ (by rfl) _ cs (by rfl) (by rfl) _ _ HG2.out (by rw [HSZ.out]; kernel_rfl) (by rw [HSZ.out]; rfl) HONE.out ?_
  simp only [Act.put]
  generalize (w2.alloc (.cells #[.string ⟨#[]⟩, .string ⟨#[]⟩, .int .i64 0, .int .i64 0, .int .i64 0, .int .i64 0, .int .i64 0, .int .i64 0, .int .i64 0, .int .i64 0, .int .i64 0, .int .i64 0, .int .i64 0, .int .i64 0, .int .i64 0, .int .i64 0, .int .i64 0, .int .i64 0] 25)).setRow w2.heap.size cs = wB at *
  generalize w2.heap.size = b2 at *
  clear HG2
  go_upto_region 4 with fail
  repeat ((fail_if_success (with_reducible show Oper.wp _ (Oper.mk _ (.load _ _) _ _ _ _) _ _ _ _)); go_step)
  refine wp_load_row _ _ (by rfl) b1 (by rfl) _ _ _ _ HQ1.out Tryd.underlying25 rfl (by rw [HSZ.out]; kernel_rfl) ?_
  simp only [Act.put]
  repeat ((fail_if_success (with_reducible show Oper.wp _ (Oper.mk _ (.load _ _) _ _ _ _) _ _ _ _)); go_step)
  refine wp_load_row _ _ (by rfl) b2 (by rfl) _ _ _ _ HR2.out Tryd.underlying25 rfl (by rw [HSZ.out]; kernel_rfl) ?_
  simp only [Act.put]
  clear HR2 HQ1 HSZ HONE HP HRP
  rcases HF.out with ⟨rfl, rfl⟩ | ⟨x0, au, c0, c1, c2, c3, c4, c5, c6, c7, c8, c9, c10, c11, c12, c13, c14, c15, rfl, rfl⟩
  all_goals
    try unfold cfZ
    go_wp2_with fail
    refine (lives13_any _).mono ?_
    rintro e w9 ⟨rfl, hb9⟩
    go_wp2_with fail
    go_ret
    exact ⟨rfl, HBB.out.trans (hb9.mono HBB.out.size)⟩
theorem cfparses_arg (v0 : Value) (w : World) (h0 : Arg Tryd.prog w 9 v0) :
    Calls Tryd.prog 3 #[v0] w fun e w' => e = .returned (.bool true) ∧ Below w.heap.size w w' := by
  obtain ⟨s, rfl, hs⟩ := h0.str Tryd.underlying9
  exact cfparses_walk s w hs
end Go.Proofs.YtggnnaafkekihaaDoor
