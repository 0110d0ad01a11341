/- Settings (layer 13): the document's Print (bin/mkcff.py). -/
import Derived.Test.YtggnnaafkekihaaDoorCfe
namespace Go.Proofs.YtggnnaafkekihaaDoor
open Go.RowKit
set_option linter.unusedVariables false
set_option linter.unusedSimpArgs false

theorem cfJ_two (a b : ByteArray) : cfJ [a, b] = a ++ ⟨#[32]⟩ ++ b := by
  have := cfJ_snoc [a] b (by simp)
  have h1 : cfJ [a] = a := by
    apply cf_tl.1
    rw [ByteArray.toList_eq, ByteArray.toList_eq]
    simp [cfJ, Lib.join_one]
  rw [h1] at this
  exact this
theorem cfJ_base (a b : ByteArray) : cfJ [a, b] = a ++ ⟨#[32]⟩ ++ b ∧ cfJ [a, ⟨#[45]⟩] = a ++ ⟨#[32]⟩ ++ ⟨#[]⟩ ++ ⟨#[45]⟩ := by
  refine ⟨cfJ_two a b, ?_⟩
  rw [cfJ_two]
  apply cf_tl.1
  rw [ByteArray.toList_eq, ByteArray.toList_eq]
  simp
theorem cfJ_le (W : List ByteArray) (h : ∀ x ∈ W, x.size ≤ 1000) : (cfJ W).size ≤ W.length * 1001 := by
  have := join_size (W.map (·.data.toList)) (fun x hx => by
    obtain ⟨y, hy, rfl⟩ := List.mem_map.1 hx
    rw [← ba_size]
    exact h y hy)
  rw [List.length_map] at this
  unfold cfJ
  rw [ba_size]
  simpa using this
theorem cfJ_take {n0 n1 au : ByteArray} {L : List Int} (h0 : n0.size ≤ 1000) (h1 : n1.size ≤ 1000) (hl : L.length = 16) (hv : cfW n0 n1 L = cfV n0 au L) (k : Nat) : (cfJ (cfV n0 au (L.take k))).size ≤ 20000 := by
  have h2 := cfW_size (L := L) h0 h1
  rw [hv] at h2
  have := cfJ_le (cfV n0 au (L.take k)) (fun x hx => h2 x (by
    unfold cfV at hx ⊢
    rcases List.mem_append.1 hx with hx | hx
    · exact List.mem_append.2 (.inl hx)
    · obtain ⟨y, hy, rfl⟩ := List.mem_map.1 hx
      exact List.mem_append.2 (.inr (List.mem_map.2 ⟨y, List.mem_of_mem_take hy, rfl⟩))))
  have h3 : (cfV n0 au (L.take k)).length ≤ 18 := by unfold cfV; rw [List.length_append, List.length_map, List.length_take]; simp; omega
  omega

set_option maxRecDepth 100000 in
set_option maxHeartbeats 4000000 in
theorem rcf_print (n0 n1 : ByteArray) (c0 c1 c2 c3 c4 c5 c6 c7 c8 c9 c10 c11 c12 c13 c14 c15 : Int) (w : World) (h0 : n0.size ≤ 1000) (h1 : n1.size ≤ 1000) :
    Calls Tryd.prog 13 #[.agg #[.string n0, .string n1, .int .i64 c0, .int .i64 c1, .int .i64 c2, .int .i64 c3, .int .i64 c4, .int .i64 c5, .int .i64 c6, .int .i64 c7, .int .i64 c8, .int .i64 c9, .int .i64 c10, .int .i64 c11, .int .i64 c12, .int .i64 c13, .int .i64 c14, .int .i64 c15]] w fun e w' => e = .returned (.string (cfT n0 n1 [c0, c1, c2, c3, c4, c5, c6, c7, c8, c9, c10, c11, c12, c13, c14, c15])) ∧ Below w.heap.size w w' := by
  have HB := Kp.mk (show Below w.heap.size w (w.alloc (.cells #[.string n0, .string n1, .int .i64 c0, .int .i64 c1, .int .i64 c2, .int .i64 c3, .int .i64 c4, .int .i64 c5, .int .i64 c6, .int .i64 c7, .int .i64 c8, .int .i64 c9, .int .i64 c10, .int .i64 c11, .int .i64 c12, .int .i64 c13, .int .i64 c14, .int .i64 c15] 25)) from below_alF (Below.refl _ _) (Nat.le_refl _) _)
  have BX := Kp.mk (heap_alloc_new w (.cells #[.string n0, .string n1, .int .i64 c0, .int .i64 c1, .int .i64 c2, .int .i64 c3, .int .i64 c4, .int .i64 c5, .int .i64 c6, .int .i64 c7, .int .i64 c8, .int .i64 c9, .int .i64 c10, .int .i64 c11, .int .i64 c12, .int .i64 c13, .int .i64 c14, .int .i64 c15] 25))
  have HNU := Kp.mk (fun w => (rcf_numbers n0 n1 c0 c1 c2 c3 c4 c5 c6 c7 c8 c9 c10 c11 c12 c13 c14 c15 w))
  obtain ⟨Ls, hLs⟩ : ∃ Ls : List Int, Ls = [c0, c1, c2, c3, c4, c5, c6, c7, c8, c9, c10, c11, c12, c13, c14, c15] := ⟨_, rfl⟩
  have HLL := Kp.mk (show Ls.length = 16 by rw [hLs]; rfl)
  replace HNU := Kp.mk (show ∀ w, Calls Tryd.prog 23 #[.agg #[.string n0, .string n1, .int .i64 c0, .int .i64 c1, .int .i64 c2, .int .i64 c3, .int .i64 c4, .int .i64 c5, .int .i64 c6, .int .i64 c7, .int .i64 c8, .int .i64 c9, .int .i64 c10, .int .i64 c11, .int .i64 c12, .int .i64 c13, .int .i64 c14, .int .i64 c15]] w (RowOf (cfNU Ls) w) from fun w => by rw [hLs]; exact HNU.out w)
  have HRI := Kp.mk (show ∀ w, Calls Tryd.prog 22 #[.agg #[.string n0, .string n1, .int .i64 c0, .int .i64 c1, .int .i64 c2, .int .i64 c3, .int .i64 c4, .int .i64 c5, .int .i64 c6, .int .i64 c7, .int .i64 c8, .int .i64 c9, .int .i64 c10, .int .i64 c11, .int .i64 c12, .int .i64 c13, .int .i64 c14, .int .i64 c15]] w fun e w' => e = .returned (.int .i64 (cfE n0 n1 Ls)) ∧ Below w.heap.size w w' from fun w => by rw [hLs]; exact rcf_right n0 n1 c0 c1 c2 c3 c4 c5 c6 c7 c8 c9 c10 c11 c12 c13 c14 c15 w h0 h1)
  rw [← hLs]
  have HSZ := Kp.mk (show ∀ x ∈ cfW n0 n1 Ls, x.size ≤ 1000 from cfW_size h0 h1)
  have H0 := Kp.mk h0
  have H1 := Kp.mk h1
  clear hLs
  go_enter Tryd.func13, Tryd.ntmps13
  go_upto_region 1 with fail
  repeat ((fail_if_success (with_reducible show Oper.wp _ (Oper.mk _ (.load 25 _) _ _ _ _) _ _ _ _)); go_step)
  refine wp_load_row _ _ (by rfl) w.heap.size (by rfl) _ _ _ _ BX.out Tryd.underlying25 rfl (by kernel_rfl) ?_
  simp only [Act.put]
  have hsz0 : w.heap.size < (w.alloc (.cells #[.string n0, .string n1, .int .i64 c0, .int .i64 c1, .int .i64 c2, .int .i64 c3, .int .i64 c4, .int .i64 c5, .int .i64 c6, .int .i64 c7, .int .i64 c8, .int .i64 c9, .int .i64 c10, .int .i64 c11, .int .i64 c12, .int .i64 c13, .int .i64 c14, .int .i64 c15] 25)).heap.size := blk_lt BX.out
  generalize w.alloc (.cells #[.string n0, .string n1, .int .i64 c0, .int .i64 c1, .int .i64 c2, .int .i64 c3, .int .i64 c4, .int .i64 c5, .int .i64 c6, .int .i64 c7, .int .i64 c8, .int .i64 c9, .int .i64 c10, .int .i64 c11, .int .i64 c12, .int .i64 c13, .int .i64 c14, .int .i64 c15] 25) = wa at *
  go_wp2_with fail
  refine (HRI.out _).mono ?_
  rintro e w1 ⟨rfl, hb1⟩
  replace BX := Kp.mk ((hb1.block _ hsz0).trans BX.out)
  replace HB := Kp.mk (HB.out.trans (hb1.mono (by omega)))
  have hsz1 : w.heap.size < w1.heap.size := blk_lt BX.out
  clear hb1 hsz0
  have e0 : w1.cell? ⟨w.heap.size, 0, none⟩ = some (.string n0) := blk_cell BX.out rfl
  have e1 : w1.cell? ⟨w.heap.size, 1, none⟩ = some (.string n1) := blk_cell BX.out rfl
  have HIN0 := Kp.mk (fun h : cfE n0 n1 Ls = 0 => cfE_zero h)
  have HCT := Kp.mk (show cfT n0 n1 Ls = if cfE n0 n1 Ls = 0 then cfJ (cfW n0 n1 Ls) else ⟨#[]⟩ from rfl)
  generalize cfE n0 n1 Ls = r at *
  by_cases hr : r = 0
  case neg =>
    have hr2 : (r == 0) = false := by simpa using hr
    go_wp2_with fail
    go_ret
    rw [HCT.out, if_neg hr]
    exact ⟨rfl, HB.out⟩
  subst hr
  have HIN := Kp.mk (HIN0.out rfl)
  replace HCT := Kp.mk (HCT.out.trans (if_pos rfl))
  have hway : n1 = ⟨#[]⟩ ∨ n1.size ≠ 0 := by
    by_cases h : n1.size = 0
    · left
      cases n1 with
      | mk d =>
        have : d = #[] := Array.size_eq_zero_iff.1 h
        rw [this]
    · exact .inr h
  rcases hway with rfl | hn
  · have HAU := Kp.mk (show cfAu ⟨#[]⟩ = ⟨#[45]⟩ from rfl)
    go_upto_region 6 with fail
    repeat ((fail_if_success (with_reducible show Oper.wp _ (Oper.mk _ (.load 25 _) _ _ _ _) _ _ _ _)); go_step)
    refine wp_load_row _ _ (by rfl) w.heap.size (by rfl) _ _ _ _ BX.out Tryd.underlying25 rfl (by kernel_rfl) ?_
    simp only [Act.put]
    go_wp2_with fail
    refine (HNU.out _).mono ?_
    rintro e w3 ⟨ba, rfl, ga, la, hb3⟩
    replace HB := Kp.mk (HB.out.trans (hb3.mono (by omega)))
    have hsz3 := hb3.size
    have hww : w.heap.size ≤ w3.heap.size := by omega
    have HAT := Kp.mk (RowOf.at ga (fun k => Ls.getD k 0) (fun k hk => cfNU_at Ls k (by rw [HLL.out]; exact hk)))
    have HBA := Kp.mk (cfJ_base n0 (⟨#[]⟩ : ByteArray))
    have HWV := Kp.mk (show cfW n0 (⟨#[]⟩ : ByteArray) Ls = cfV n0 (⟨#[45]⟩ : ByteArray) Ls by unfold cfW; rw [HAU.out])
    clear hb3 BX HNU HRI ga la HAU e0 e1
    go_wp2_with fail
    go_loopw [3, 5] (fun s i wr => ∃ k : Nat, k ≤ 16 ∧ i = .int .i64 k ∧ s = .string (cfJ (cfV n0 (⟨#[45]⟩ : ByteArray) (Ls.take k))) ∧ Below w3.heap.size w3 wr) (fun _ i _ => 16 - (intOf i).toNat)
    case atStart => exact ⟨0, by omega, rfl, by rw [show cfV n0 ⟨#[45]⟩ (Ls.take 0) = [n0, ⟨#[45]⟩] from rfl, HBA.out.2], Below.refl _ _⟩
    case round =>
      obtain ⟨k, hk, rfl, rfl, hb⟩ := hrel
      have HBW := Kp.mk hb
      have hszw := hb.size
      have hjz := cfJ_take (n0 := n0) (n1 := (⟨#[]⟩ : ByteArray)) (L := Ls) H0.out H1.out HLL.out (au := (⟨#[45]⟩ : ByteArray)) HWV.out k
      by_cases hlt : k < 16
      · have d0 : wr.cell? ⟨ba, k, none⟩ = some (.int .i64 (Ls.getD k 0)) := HAT.out k _ hlt hb
        have HST := Kp.mk (show cfV n0 (⟨#[45]⟩ : ByteArray) (Ls.take (k + 1)) = cfV n0 (⟨#[45]⟩ : ByteArray) (Ls.take k) ++ [cfTx (Ls.getD k 0)] by
          unfold cfV
          rw [List.take_succ_eq_append_getElem (by rw [HLL.out]; exact hlt), List.map_append, ← List.append_assoc]
          simp [List.getD_eq_getElem?_getD, List.getElem?_eq_getElem (show k < Ls.length by rw [HLL.out]; exact hlt)])
        have HNE := Kp.mk (show cfV n0 (⟨#[45]⟩ : ByteArray) (Ls.take k) ≠ [] by unfold cfV; simp)
        have HXI := Kp.mk (cfIn_at HIN.out k hlt)
        clear hb
        generalize Ls.getD k 0 = x at *
        generalize cfV n0 (⟨#[45]⟩ : ByteArray) (Ls.take k) = acc at *
        have HSN := Kp.mk (cfJ_snoc acc (cfTx x) HNE.out)
        generalize cfJ acc = s at *
        have q1 : (k : Int) < 16 := by omega
        have q0 : (0 : Int) ≤ (k : Int) := by omega
        have hs1 : (s ++ (⟨#[32]⟩ : ByteArray)).size = s.size + 1 := by rw [ByteArray.size_append]; rfl
        go_wp2_with fail
        refine (rtext_any x _ (by have := HXI.out; omega) (by have := HXI.out; omega)).mono ?_
        rintro e w4 ⟨rfl, hb4⟩
        have HB4 := Kp.mk (HBW.out.trans (hb4.mono hszw))
        have htz : (ofL (textL x)).size ≤ 21 := by rw [ofL_size]; exact textL_len x
        have HTX := Kp.mk (show cfTx x = ofL (textL x) from rfl)
        generalize ofL (textL x) = tx at *
        clear hb4
        go_wp2_with fail
        go_roundw
        case rel =>
          refine ⟨k + 1, by omega, by go_num, ?_, HB4.out⟩
          rw [HST.out, HSN.out, HTX.out]
        case measure => simp [intOf] <;> omega
      · obtain rfl : k = 16 := by omega
        have HTK := Kp.mk (show Ls.take 16 = Ls from List.take_of_length_le (by rw [HLL.out]; omega))
        rw [HTK.out]
        rw [HWV.out] at HCT
        clear hb
        go_wp2_with fail
        go_ret
        rw [HCT.out]
        exact ⟨rfl, HB.out.trans (HBW.out.mono hww)⟩
  · have HAU := Kp.mk (show cfAu n1 = n1 from if_neg hn)
    obtain ⟨hm1, hm2⟩ := cf_emp hn
    clear hn
    go_upto_region 6 with fail
    repeat ((fail_if_success (with_reducible show Oper.wp _ (Oper.mk _ (.load 25 _) _ _ _ _) _ _ _ _)); go_step)
    refine wp_load_row _ _ (by rfl) w.heap.size (by rfl) _ _ _ _ BX.out Tryd.underlying25 rfl (by kernel_rfl) ?_
    simp only [Act.put]
    go_wp2_with fail
    refine (HNU.out _).mono ?_
    rintro e w3 ⟨ba, rfl, ga, la, hb3⟩
    replace HB := Kp.mk (HB.out.trans (hb3.mono (by omega)))
    have hsz3 := hb3.size
    have hww : w.heap.size ≤ w3.heap.size := by omega
    have HAT := Kp.mk (RowOf.at ga (fun k => Ls.getD k 0) (fun k hk => cfNU_at Ls k (by rw [HLL.out]; exact hk)))
    have HBA := Kp.mk (cfJ_base n0 n1)
    have HWV := Kp.mk (show cfW n0 n1 Ls = cfV n0 n1 Ls by unfold cfW; rw [HAU.out])
    clear hb3 BX HNU HRI ga la HAU e0 e1
    go_wp2_with fail
    go_loopw [3, 5] (fun s i wr => ∃ k : Nat, k ≤ 16 ∧ i = .int .i64 k ∧ s = .string (cfJ (cfV n0 n1 (Ls.take k))) ∧ Below w3.heap.size w3 wr) (fun _ i _ => 16 - (intOf i).toNat)
    case atStart => exact ⟨0, by omega, rfl, by rw [show cfV n0 n1 (Ls.take 0) = [n0, n1] from rfl, HBA.out.1], Below.refl _ _⟩
    case round =>
      obtain ⟨k, hk, rfl, rfl, hb⟩ := hrel
      have HBW := Kp.mk hb
      have hszw := hb.size
      have hjz := cfJ_take (n0 := n0) (n1 := n1) (L := Ls) H0.out H1.out HLL.out (au := n1) HWV.out k
      by_cases hlt : k < 16
      · have d0 : wr.cell? ⟨ba, k, none⟩ = some (.int .i64 (Ls.getD k 0)) := HAT.out k _ hlt hb
        have HST := Kp.mk (show cfV n0 n1 (Ls.take (k + 1)) = cfV n0 n1 (Ls.take k) ++ [cfTx (Ls.getD k 0)] by
          unfold cfV
          rw [List.take_succ_eq_append_getElem (by rw [HLL.out]; exact hlt), List.map_append, ← List.append_assoc]
          simp [List.getD_eq_getElem?_getD, List.getElem?_eq_getElem (show k < Ls.length by rw [HLL.out]; exact hlt)])
        have HNE := Kp.mk (show cfV n0 n1 (Ls.take k) ≠ [] by unfold cfV; simp)
        have HXI := Kp.mk (cfIn_at HIN.out k hlt)
        clear hb
        generalize Ls.getD k 0 = x at *
        generalize cfV n0 n1 (Ls.take k) = acc at *
        have HSN := Kp.mk (cfJ_snoc acc (cfTx x) HNE.out)
        generalize cfJ acc = s at *
        have q1 : (k : Int) < 16 := by omega
        have q0 : (0 : Int) ≤ (k : Int) := by omega
        have hs1 : (s ++ (⟨#[32]⟩ : ByteArray)).size = s.size + 1 := by rw [ByteArray.size_append]; rfl
        go_wp2_with fail
        refine (rtext_any x _ (by have := HXI.out; omega) (by have := HXI.out; omega)).mono ?_
        rintro e w4 ⟨rfl, hb4⟩
        have HB4 := Kp.mk (HBW.out.trans (hb4.mono hszw))
        have htz : (ofL (textL x)).size ≤ 21 := by rw [ofL_size]; exact textL_len x
        have HTX := Kp.mk (show cfTx x = ofL (textL x) from rfl)
        generalize ofL (textL x) = tx at *
        clear hb4
        go_wp2_with fail
        go_roundw
        case rel =>
          refine ⟨k + 1, by omega, by go_num, ?_, HB4.out⟩
          rw [HST.out, HSN.out, HTX.out]
        case measure => simp [intOf] <;> omega
      · obtain rfl : k = 16 := by omega
        have HTK := Kp.mk (show Ls.take 16 = Ls from List.take_of_length_le (by rw [HLL.out]; omega))
        rw [HTK.out]
        rw [HWV.out] at HCT
        clear hb
        go_wp2_with fail
        go_ret
        rw [HCT.out]
        exact ⟨rfl, HB.out.trans (HBW.out.mono hww)⟩
end Go.Proofs.YtggnnaafkekihaaDoor
