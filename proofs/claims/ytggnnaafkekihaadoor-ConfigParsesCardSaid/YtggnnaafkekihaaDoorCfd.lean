/- Settings (layer 13): Right of the document (bin/mkcfd.py). -/
import Derived.Test.YtggnnaafkekihaaDoorCfc
namespace Go.Proofs.YtggnnaafkekihaaDoor
open Go.RowKit
set_option linter.unusedVariables false
set_option linter.unusedSimpArgs false

theorem RowOf.at {cs : Array Value} {b : Nat} {w5 : World} (h : w5.heap[b]? = some (.cells cs 3 (0, 0))) (f : Nat → Int) (hf : ∀ k, k < 16 → cs[k]? = some (.int .i64 (f k))) : ∀ (k : Nat) (wr : World), k < 16 → Below w5.heap.size w5 wr → wr.cell? ⟨b, k, none⟩ = some (.int .i64 (f k)) := fun k wr hk hb =>
  (hb.cell (p := ⟨b, k, none⟩) (blk_lt h)).trans (blk_cell h (hf k hk))
set_option maxRecDepth 100000 in
set_option maxHeartbeats 4000000 in
theorem rcf_right (n0 n1 : ByteArray) (c0 c1 c2 c3 c4 c5 c6 c7 c8 c9 c10 c11 c12 c13 c14 c15 : Int) (w : World) (h0 : n0.size ≤ 1000) (h1 : n1.size ≤ 1000) :
    Calls Tryd.prog 22 #[.agg #[.string n0, .string n1, .int .i64 c0, .int .i64 c1, .int .i64 c2, .int .i64 c3, .int .i64 c4, .int .i64 c5, .int .i64 c6, .int .i64 c7, .int .i64 c8, .int .i64 c9, .int .i64 c10, .int .i64 c11, .int .i64 c12, .int .i64 c13, .int .i64 c14, .int .i64 c15]] w fun e w' => e = .returned (.int .i64 (cfE n0 n1 [c0, c1, c2, c3, c4, c5, c6, c7, c8, c9, c10, c11, c12, c13, c14, c15])) ∧ Below w.heap.size w w' := by
  have HW := Kp.mk (cf_ways n1)
  have H1 := Kp.mk h1
  have hb0 : Below w.heap.size w (w.alloc (.cells #[.string n0, .string n1, .int .i64 c0, .int .i64 c1, .int .i64 c2, .int .i64 c3, .int .i64 c4, .int .i64 c5, .int .i64 c6, .int .i64 c7, .int .i64 c8, .int .i64 c9, .int .i64 c10, .int .i64 c11, .int .i64 c12, .int .i64 c13, .int .i64 c14, .int .i64 c15] 25)) := below_alF (Below.refl _ _) (Nat.le_refl _) _
  have HB := Kp.mk hb0
  have BX := Kp.mk (heap_alloc_new w (.cells #[.string n0, .string n1, .int .i64 c0, .int .i64 c1, .int .i64 c2, .int .i64 c3, .int .i64 c4, .int .i64 c5, .int .i64 c6, .int .i64 c7, .int .i64 c8, .int .i64 c9, .int .i64 c10, .int .i64 c11, .int .i64 c12, .int .i64 c13, .int .i64 c14, .int .i64 c15] 25))
  clear hb0 h1
  go_enter Tryd.func22, Tryd.ntmps22
  go_wp2_with fail
  refine (ref_token_any n0 _ (by unfold maxLen; omega)).mono ?_
  rintro e w1 ⟨rfl, rfl⟩
  have hsz1 : w.heap.size < (w.alloc (.cells #[.string n0, .string n1, .int .i64 c0, .int .i64 c1, .int .i64 c2, .int .i64 c3, .int .i64 c4, .int .i64 c5, .int .i64 c6, .int .i64 c7, .int .i64 c8, .int .i64 c9, .int .i64 c10, .int .i64 c11, .int .i64 c12, .int .i64 c13, .int .i64 c14, .int .i64 c15] 25)).heap.size := blk_lt BX.out
  generalize w.alloc (.cells #[.string n0, .string n1, .int .i64 c0, .int .i64 c1, .int .i64 c2, .int .i64 c3, .int .i64 c4, .int .i64 c5, .int .i64 c6, .int .i64 c7, .int .i64 c8, .int .i64 c9, .int .i64 c10, .int .i64 c11, .int .i64 c12, .int .i64 c13, .int .i64 c14, .int .i64 c15] 25) = w1 at *
  have e0 : w1.cell? ⟨w.heap.size, 0, none⟩ = some (.string n0) := blk_cell BX.out rfl
  have e1 : w1.cell? ⟨w.heap.size, 1, none⟩ = some (.string n1) := blk_cell BX.out rfl
  cases hT : tokenB n0
  · go_wp2_with fail
    go_ret
    rw [cfE_name (.inl hT)]
    exact ⟨rfl, HB.out⟩
  have HT := Kp.mk hT
  clear hT
  by_cases hS : 100 < n0.size
  · go_wp2_with fail
    go_ret
    rw [cfE_name (.inr hS)]
    exact ⟨rfl, HB.out⟩
  have HS := Kp.mk hS
  have hnum : n1.size = 0 ∨ cfBad n1 = false → Kp (cfE n0 n1 [c0, c1, c2, c3, c4, c5, c6, c7, c8, c9, c10, c11, c12, c13, c14, c15] = if cfIn [c0, c1, c2, c3, c4, c5, c6, c7, c8, c9, c10, c11, c12, c13, c14, c15] = false then 5 else 0) := fun h => Kp.mk (cfE_num HT.out HS.out h)
  have HNUM := Kp.mk hnum
  clear hnum
  rcases HW.out with rfl | ⟨hn, hk, hb⟩ | ⟨hn, hk, hq, hb⟩ | ⟨hn, hk, hq, hl, hb⟩ | ⟨hn, hk, hq, hl, hb⟩

  case inr.inl =>
    have HH := Kp.mk (cfE_host (L := [c0, c1, c2, c3, c4, c5, c6, c7, c8, c9, c10, c11, c12, c13, c14, c15]) HT.out HS.out hn hb)
    obtain ⟨hm1, hm2⟩ := cf_emp hn
    clear hb HW hn
    go_wp2_with fail
    refine (rhs_key_any n1 _ (by have := H1.out; omega)).mono ?_
    rintro e w2 ⟨rfl, hb2⟩
    unfold hsKR
    rw [hk]
    clear e0 e1
    replace BX := Kp.mk ((hb2.block _ hsz1).trans BX.out)
    replace HB := Kp.mk (HB.out.trans (hb2.mono (by omega)))
    clear hb2
    have e0 : w2.cell? ⟨w.heap.size, 0, none⟩ = some (.string n0) := blk_cell BX.out rfl
    have e1 : w2.cell? ⟨w.heap.size, 1, none⟩ = some (.string n1) := blk_cell BX.out rfl
    go_wp2_with fail
    go_ret
    rw [HH.out]
    exact ⟨rfl, HB.out⟩

  case inr.inr.inl =>
    have HH := Kp.mk (cfE_host (L := [c0, c1, c2, c3, c4, c5, c6, c7, c8, c9, c10, c11, c12, c13, c14, c15]) HT.out HS.out hn hb)
    obtain ⟨hm1, hm2⟩ := cf_emp hn
    clear hb HW hn
    go_wp2_with fail
    refine (rhs_key_any n1 _ (by have := H1.out; omega)).mono ?_
    rintro e w2 ⟨rfl, hb2⟩
    unfold hsKR
    rw [hk]
    clear e0 e1
    replace BX := Kp.mk ((hb2.block _ hsz1).trans BX.out)
    replace HB := Kp.mk (HB.out.trans (hb2.mono (by omega)))
    clear hb2
    have e0 : w2.cell? ⟨w.heap.size, 0, none⟩ = some (.string n0) := blk_cell BX.out rfl
    have e1 : w2.cell? ⟨w.heap.size, 1, none⟩ = some (.string n1) := blk_cell BX.out rfl
    go_wp2_with fail
    go_ret
    rw [HH.out]
    exact ⟨rfl, HB.out⟩

  case inr.inr.inr.inl =>
    have HH := Kp.mk (cfE_host (L := [c0, c1, c2, c3, c4, c5, c6, c7, c8, c9, c10, c11, c12, c13, c14, c15]) HT.out HS.out hn hb)
    obtain ⟨hm1, hm2⟩ := cf_emp hn
    clear hb HW hn
    go_wp2_with fail
    refine (rhs_key_any n1 _ (by have := H1.out; omega)).mono ?_
    rintro e w2 ⟨rfl, hb2⟩
    unfold hsKR
    rw [hk, hq]
    clear e0 e1
    replace BX := Kp.mk ((hb2.block _ hsz1).trans BX.out)
    replace HB := Kp.mk (HB.out.trans (hb2.mono (by omega)))
    clear hb2
    have e0 : w2.cell? ⟨w.heap.size, 0, none⟩ = some (.string n0) := blk_cell BX.out rfl
    have e1 : w2.cell? ⟨w.heap.size, 1, none⟩ = some (.string n1) := blk_cell BX.out rfl
    go_wp2_with fail
    go_ret
    rw [HH.out]
    exact ⟨rfl, HB.out⟩

  case' inl =>
    have HN := Kp.mk (HNUM.out (.inl rfl)).out
    clear HNUM HW
    go_upto_region 7 with fail
  case' inr.inr.inr.inr =>
    have HN := Kp.mk (HNUM.out (.inr hb)).out
    obtain ⟨hm1, hm2⟩ := cf_emp hn
    clear hb HNUM HW hn
    go_wp2_with fail
    refine (rhs_key_any n1 _ (by have := H1.out; omega)).mono ?_
    rintro e w2 ⟨rfl, hb2⟩
    unfold hsKR
    rw [hk, hq]
    clear e0 e1
    replace BX := Kp.mk ((hb2.block _ hsz1).trans BX.out)
    replace HB := Kp.mk (HB.out.trans (hb2.mono (by omega)))
    replace hsz1 : w.heap.size < w2.heap.size := blk_lt BX.out
    clear hb2
    have e0 : w2.cell? ⟨w.heap.size, 0, none⟩ = some (.string n0) := blk_cell BX.out rfl
    have e1 : w2.cell? ⟨w.heap.size, 1, none⟩ = some (.string n1) := blk_cell BX.out rfl
    go_upto_region 7 with fail
  all_goals
    repeat ((fail_if_success (with_reducible show Oper.wp _ (Oper.mk _ (.load 25 _) _ _ _ _) _ _ _ _)); go_step)
    refine wp_load_row _ _ (by rfl) w.heap.size (by rfl) _ _ _ _ BX.out Tryd.underlying25 rfl (by kernel_rfl) ?_
    simp only [Act.put]
    go_wp2_with fail
    refine (rcf_numbers _ _ c0 c1 c2 c3 c4 c5 c6 c7 c8 c9 c10 c11 c12 c13 c14 c15 _).mono ?_
    rintro e w3 ⟨ba, rfl, ga, la, hb3⟩
    clear e0 e1
    go_wp2_with fail
    refine (rcf_least _).mono ?_
    rintro e w4 ⟨bl, rfl, gl, ll, hb4⟩
    go_wp2_with fail
    refine (rcf_most _).mono ?_
    rintro e w5 ⟨bm, rfl, gm, lm, hb5⟩
    have hsz3 := hb3.size
    have hsz4 := hb4.size
    have hsz5 := hb5.size
    have HB2 := Kp.mk (((HB.out.trans (hb3.mono (by omega))).trans (hb4.mono (by omega))).trans (hb5.mono (by omega)))
    have ga4 := (hb4.block _ (blk_lt ga)).trans ga
    have ga5 := (hb5.block _ (blk_lt ga4)).trans ga4
    have gl5 := (hb5.block _ (blk_lt gl)).trans gl
    obtain ⟨Ls, hLs⟩ : ∃ Ls : List Int, Ls = [c0, c1, c2, c3, c4, c5, c6, c7, c8, c9, c10, c11, c12, c13, c14, c15] := ⟨_, rfl⟩
    have HN3 := Kp.mk (show cfE n0 _ [c0, c1, c2, c3, c4, c5, c6, c7, c8, c9, c10, c11, c12, c13, c14, c15] = if cfIn Ls = false then 5 else 0 from by rw [hLs]; exact HN.out)
    have HLL := Kp.mk (show Ls.length = 16 by rw [hLs]; rfl)
    rw [← hLs] at ga5
    have HAT := Kp.mk (RowOf.at ga5 (fun k => Ls.getD k 0) (fun k hk => cfNU_at Ls k (by rw [HLL.out]; exact hk)))
    have HLO := Kp.mk (RowOf.at gl5 cfLo (fun k hk => (cfLM_at k hk).1))
    have HHI := Kp.mk (RowOf.at gm cfHi (fun k hk => (cfLM_at k hk).2))
    have hww : w.heap.size ≤ w5.heap.size := by omega
    clear hb3 hb4 hb5 ga ga4 ga5 gl gl5 gm hLs HB BX HN la ll lm
    go_wp2_with fail
    go_loopw [8] (fun i wr => ∃ k : Nat, k ≤ 16 ∧ i = .int .i64 k ∧ Below w5.heap.size w5 wr ∧ Kp (∀ j, j < k → cfLo j ≤ Ls.getD j 0 ∧ Ls.getD j 0 ≤ cfHi j)) (fun i _ => 16 - (intOf i).toNat)
    case atStart => exact ⟨0, by omega, rfl, Below.refl _ _, ⟨fun j hj => by omega⟩⟩
    case round =>

      obtain ⟨k, hk, rfl, hb, hf⟩ := hrel
      have HBR := Kp.mk hb
      by_cases hlt : k < 16
      · have d0 : wr.cell? ⟨ba, k, none⟩ = some (.int .i64 (Ls.getD k 0)) := HAT.out k _ hlt hb
        have d1 := HLO.out k _ hlt hb
        have d2 := HHI.out k _ hlt hb
        have HNO := Kp.mk (fun h => cfIn_no (L := Ls) hlt h)
        have HFF := Kp.mk (show ∀ j, j < k + 1 → (cfLo k ≤ Ls.getD k 0 ∧ Ls.getD k 0 ≤ cfHi k) → cfLo j ≤ Ls.getD j 0 ∧ Ls.getD j 0 ≤ cfHi j from fun j hj h => by
          rcases Nat.lt_succ_iff_lt_or_eq.1 hj with hj | rfl
          · exact hf.out j hj
          · exact h)
        clear hb hf
        generalize Ls.getD k 0 = x at *
        generalize cfLo k = lo at *
        generalize cfHi k = hi at *
        have q0 : (0 : Int) ≤ (k : Int) := by omega
        have q1 : (k : Int) < 16 := by omega
        by_cases hx1 : x < lo
        · have t1 : decide (x < lo) = true := decide_eq_true hx1
          have HE := Kp.mk (HNO.out (.inl hx1))
          clear hx1
          go_wp2_with fail
          go_quiet (fail)
          go_wp2_with fail
          go_ret
          rw [HN3.out, HE.out]
          exact ⟨rfl, (HB2.out.trans (HBR.out.mono (by omega))).trans ((gdrewN _ _).mono (by have := HBR.out.size; omega))⟩
        · have t1 : decide (x < lo) = false := decide_eq_false hx1
          by_cases hx2 : hi < x
          · have t2 : decide (hi < x) = true := decide_eq_true hx2
            have HE := Kp.mk (HNO.out (.inr hx2))
            clear hx1 hx2
            go_wp2_with fail
            go_quiet (fail)
            go_wp2_with fail
            go_ret
            rw [HN3.out, HE.out]
            exact ⟨rfl, (HB2.out.trans (HBR.out.mono (by omega))).trans ((gdrewN _ _).mono (by have := HBR.out.size; omega))⟩
          · have t2 : decide (hi < x) = false := decide_eq_false hx2
            have HOK := Kp.mk (show lo ≤ x ∧ x ≤ hi by omega)
            clear hx1 hx2
            go_wp2_with fail
            go_quiet (fail)
            go_wp2_with fail
            go_roundw
            case rel => exact ⟨k + 1, by omega, by go_num, HBR.out.trans ((gdrewN _ _).mono HBR.out.size), ⟨fun j hj => HFF.out j hj HOK.out⟩⟩
            case measure => simp [intOf]; omega
      · obtain rfl : k = 16 := by omega
        have HE := Kp.mk (cfIn_yes (L := Ls) hf.out)
        clear hb hf
        go_wp2_with fail
        go_ret
        rw [HN3.out, HE.out]
        exact ⟨rfl, HB2.out.trans (HBR.out.mono (by omega))⟩
end Go.Proofs.YtggnnaafkekihaaDoor
