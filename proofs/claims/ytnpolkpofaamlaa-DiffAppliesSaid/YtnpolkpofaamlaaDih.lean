/- How lists of lines differ (layer 51): Turn; the document's Apply (bin/mkdih.py). -/
import Derived.Test.YtnpolkpofaamlaaDig
namespace Go.Proofs.Ytnpolkpofaamlaa
open Go.RowKit
set_option linter.unusedVariables false
set_option linter.unusedSimpArgs false

theorem drL_cons (p : Dr) (M : List Dr) : drL (p :: M) = .int .i64 p.1 :: .string p.2 :: drL M := rfl
theorem drL_set : ∀ (M : List Dr) (k : Nat) (p : Dr) (s' : Int), M[k]? = some p → (drL M).set (k * 2) (.int .i64 s') = drL (M.set k (s', p.2))
  | [], k, p, s', h => by simp at h
  | q :: M, 0, p, s', h => by
    simp at h
    subst h
    rfl
  | q :: M, k + 1, p, s', h => by
    have e : (k + 1) * 2 = k * 2 + 2 := by omega
    rw [e, drL_cons, List.set_cons_succ, List.set_cons_succ, drL_set M k p s' (by simpa using h), List.set_cons_succ, drL_cons]
def mixT (L : List Dr) (k : Nat) : List Dr := trL (L.take k) ++ L.drop k
theorem trL_len (L : List Dr) : (trL L).length = L.length := by unfold trL; rw [List.length_map]
theorem mixT_len {L : List Dr} {k : Nat} (h : k ≤ L.length) : (mixT L k).length = L.length := by
  unfold mixT
  rw [List.length_append, trL_len, List.length_take, List.length_drop]
  omega
theorem mixT_at {L : List Dr} {k : Nat} (h : k < L.length) : (mixT L k)[k]? = some L[k] := by
  unfold mixT
  rw [List.getElem?_append_right (by rw [trL_len, List.length_take]; omega), trL_len, List.length_take, List.drop_eq_getElem_cons h]
  have : k - min k L.length = 0 := by omega
  rw [this]
  rfl
theorem mixT_step {L : List Dr} {k : Nat} (h : k < L.length) : (mixT L k).set k (trI L[k].1, L[k].2) = mixT L (k + 1) := by
  unfold mixT
  rw [List.set_append_right _ _ (by rw [trL_len, List.length_take]; omega), trL_len, List.length_take, List.drop_eq_getElem_cons h, List.take_succ_eq_append_getElem h]
  have : k - min k L.length = 0 := by omega
  rw [this]
  show trL (L.take k) ++ ((trI L[k].1, L[k].2) :: L.drop (k + 1)) = trL (L.take k ++ [L[k]]) ++ L.drop (k + 1)
  have e : trL (L.take k ++ [L[k]]) = trL (L.take k) ++ [(trI L[k].1, L[k].2)] := by unfold trL; rw [List.map_append]; rfl
  rw [e, List.append_assoc]
  rfl
theorem mixT_same {L : List Dr} {k : Nat} (h : k < L.length) (ht : trI L[k].1 = L[k].1) : mixT L (k + 1) = mixT L k := by
  rw [← mixT_step h, ht]
  have h2 := mixT_at h
  obtain ⟨h3, h4⟩ := List.getElem?_eq_some_iff.1 h2
  conv => rhs; rw [← List.set_getElem_self h3]
  rw [h4]
theorem mixT_all (L : List Dr) : mixT L L.length = trL L := by unfold mixT; rw [List.take_length, List.drop_length, List.append_nil]
theorem own_setD {w : World} {B : Nat} {e : TypeId} {n g cap k : Nat} {M : List Dr} {p : Dr} {s' : Int} (h : w.ownsRow B e 2 (.slice (some ⟨g, 0, none⟩) n cap) n (drL M)) (hp : M[k]? = some p) :
    (w.setCell ⟨g, k * 2, none⟩ (.int .i64 s')).ownsRow B e 2 (.slice (some ⟨g, 0, none⟩) n cap) n (drL (M.set k (s', p.2))) := by
  rw [← drL_set M k p s' hp]
  refine ⟨by rw [List.length_set]; exact h.1, ?_⟩
  rcases h.2 with ⟨h2, _⟩ | ⟨g', cap', cur, h2, h3, hg, h4, h5, h6, h7⟩
  · cases h2
  · cases h2
    refine .inr ⟨g, cap, cur.setIfInBounds (k * 2) (.int .i64 s'), rfl, h3, blk_set hg _, h4, h5, by rw [Array.size_setIfInBounds]; exact h6, ?_⟩
    rw [Array.toList_setIfInBounds, List.take_set, h7]
theorem bel_al {B : Nat} {w a : World} (h : Below B w a) (o : Obj) (hB : B ≤ w.heap.size := by omega) : Below B w (a.alloc o) := h.alloc (Nat.le_trans hB h.size) o
theorem own_free {w : World} {B : Nat} {e : TypeId} {sz n g cap : Nat} {xs : List Value} (h : w.ownsRow B e sz (.slice (some ⟨g, 0, none⟩) n cap) n xs) (k : Nat) : w.frozen? ⟨g, k, none⟩ = false := by
  rcases h.2 with ⟨h2, _⟩ | ⟨g', cap', cur, h2, h3, hg, rest⟩
  · cases h2
  · cases h2
    exact blk_free hg
set_option maxRecDepth 100000 in
set_option maxHeartbeats 1000000 in
theorem dturn_any (vl : Value) (L : List Dr) (w : World) (hv : RdDr w vl L) (hl : L.length ≤ 1000) :
    Calls Try.prog 65 #[vl] w (RetDr (trL L) w) := by
  have HCL := Kp.mk (dclone_any vl L w hv (by omega))
  have HTL := Kp.mk (trL_len L)
  have HMA := Kp.mk (mixT_all L)
  obtain ⟨av, acv, rfl⟩ := rddr_form hv
  clear hv
  go_enter Try.func65, Try.ntmps65
  go_wp2_with fail
  refine HCL.out.mono ?_
  rintro e w1 ⟨v, rfl, ho, hb⟩
  have HO := Kp.mk (show w1.ownsRow w.heap.size 99 2 v L.length (drL (mixT L 0)) from ho)
  have HB := Kp.mk hb
  obtain ⟨a, c, rfl⟩ := own_lenH ho
  have hform : 0 < L.length → ∃ g, a = some ⟨g, 0, none⟩ := fun h0 => by
    rcases ho.2 with ⟨h, h9⟩ | ⟨g, cap, cur, h, _⟩
    · omega
    · cases h
      exact ⟨g, rfl⟩
  have HFO := Kp.mk hform
  clear ho hb hform HCL
  generalize hn : L.length = n at *
  have HN := Kp.mk hn
  clear hn
  go_wp2_with fail
  go_loopw [10] (fun i wr => ∃ k : Nat, k ≤ n ∧ i = .int .i64 k ∧ wr.ownsRow w.heap.size 99 2 (.slice a n c) n (drL (mixT L k)) ∧ Below w.heap.size w wr) (fun i _ => n - (intOf i).toNat)
  case atStart => exact ⟨0, Nat.zero_le _, rfl, HO.out, HB.out⟩
  case round =>
    obtain ⟨k, hk, rfl, ho, hb⟩ := hrel
    have HOW := Kp.mk ho
    have HBW := Kp.mk hb
    clear ho hb HO HB
    by_cases hlt : k < n
    · have hkl : k < L.length := by have := HN.out; omega
      obtain ⟨g, rfl⟩ := HFO.out (by omega)
      have HAT := Kp.mk (mixT_at hkl)
      have HST := Kp.mk (mixT_step hkl)
      have HSM := Kp.mk (fun h => mixT_same hkl h)
      have hML := mixT_len (L := L) (k := k) (by omega)
      obtain ⟨g', o, e, hg, d⟩ := rddr_cells (rddr_own (l := mixT L k) (v := .slice (some ⟨g, 0, none⟩) n c) (by rw [hML, HN.out]; exact HOW.out)) (by omega)
      cases e
      have hkM : k < (mixT L k).length := by omega
      obtain ⟨c1, c2⟩ := d k hkM
      have hgk : (mixT L k)[k] = L[k] := by have := HAT.out; rw [List.getElem?_eq_getElem hkM] at this; exact Option.some.inj this
      rw [hgk] at c1 c2
      have q1 : (k : Int) < (n : Int) := by omega
      rw [Nat.zero_add] at c1 c2
      clear d hgk hkM hML
      generalize L[k] = p at *
      obtain ⟨s, t⟩ := p
      dsimp only at c1 c2 HST HSM
      clear hkl
      generalize mixT L k = M at *
      have hA := (Below.refl wr.heap.size wr).alloc (Nat.le_refl _) (.cells #[.int .i64 s, .string t] 99)
      have HOA := Kp.mk (own_kd HOW.out (w' := wr.alloc (.cells #[.int .i64 s, .string t] 99)) fun g _ hg => hA.block g hg)
      have HBA := Kp.mk (HBW.out.trans (hA.mono HBW.out.size))
      have hbx := heap_alloc_new wr (.cells #[.int .i64 s, .string t] 99)
      have b0 := blk_cell (i := 0) hbx rfl
      have b1 := blk_cell (i := 1) hbx rfl
      have f1 := own_free HOA.out (k * 2)
      have d1 := (hA.cell (p := ⟨g, k * 2, none⟩) hg).trans c1
      have hgw := (HOW.out.lt g rfl).1
      have n1 : ¬ g = wr.heap.size := by omega
      have n2 : ¬ wr.heap.size = g := by omega
      clear hA hbx
      by_cases s1 : s = 1
      · subst s1
        have HX := Kp.mk (own_kd (own_setD (s' := 2) HOW.out HAT.out) (w' := (wr.setCell ⟨g, k * 2, none⟩ (.int .i64 2)).alloc (.cells #[.int .i64 1, .string t] 99)) fun j _ hj => Below.heap_alloc _ _ j hj)
        have HE := Kp.mk (show mixT L (k + 1) = M.set k (2, t) from HST.out.symm)
        go_wp2_with fail
        go_roundw
        case rel => exact ⟨k + 1, by omega, by go_num, by rw [HE.out]; exact HX.out, bel_al (HBW.out.setCell (p := ⟨g, k * 2, none⟩) hgw _) _ (Nat.le_refl _)⟩
        case measure => simp [intOf] <;> omega
      · have e1 : (s == 1) = false := by simp [s1]
        by_cases s2 : s = 2
        · subst s2
          have HX := Kp.mk (own_kd (own_setD (s' := 1) HOW.out HAT.out) (w' := (wr.setCell ⟨g, k * 2, none⟩ (.int .i64 1)).alloc (.cells #[.int .i64 2, .string t] 99)) fun j _ hj => Below.heap_alloc _ _ j hj)
          have HE := Kp.mk (show mixT L (k + 1) = M.set k (1, t) from HST.out.symm)
          go_wp2_with fail
          go_roundw
          case rel => exact ⟨k + 1, by omega, by go_num, by rw [HE.out]; exact HX.out, bel_al (HBW.out.setCell (p := ⟨g, k * 2, none⟩) hgw _) _ (Nat.le_refl _)⟩
          case measure => simp [intOf] <;> omega
        · have e2 : (s == 2) = false := by simp [s2]
          have HE := Kp.mk (HSM.out (by unfold trI; rw [if_neg s1, if_neg s2]))
          go_wp2_with fail
          go_roundw
          case rel => exact ⟨k + 1, by omega, by go_num, by rw [HE.out]; exact HOA.out, HBA.out⟩
          case measure => simp [intOf] <;> omega
    · have hkn : k = n := by omega
      subst hkn
      go_wp2_with fail
      go_ret
      refine ⟨_, rfl, ?_, HBW.out⟩
      rw [HTL.out, ← HMA.out]
      exact HOW.out

set_option maxRecDepth 100000 in
set_option maxHeartbeats 1000000 in
theorem rapply_any (va vl : Value) (a : Ln) (L : List Dr) (w : World) (ha : RdS w va a) (hv : RdDr w vl L) (hl : L.length ≤ 1000) (hal : a.length ≤ 1000) :
    Calls Try.prog 64 #[va, vl] w (RetAp a L w) := by
  have HA := Kp.mk ha
  have HV := Kp.mk hv
  have HR := Kp.mk (show apR a L = (okL L && decide (frL L = a)) from rfl)
  have HAL := Kp.mk (show apL a L = if apR a L = true then toL L else [] from rfl)
  unfold RetAp
  generalize apR a L = R at *
  generalize apL a L = AL at *
  obtain ⟨av, acv, rfl⟩ := rddr_form hv
  have hs1 : (w.alloc (.cells #[] 9)).heap.size = w.heap.size + 1 := World.size_alloc _ _
  have HI0 := Kp.mk (show Two51 [] [] (.slice (some ⟨w.heap.size, 0, none⟩) 0 0) (.slice (some ⟨w.heap.size + 1, 0, none⟩) 0 0) w ((w.alloc (.cells #[] 9)).alloc (.cells #[] 9)) from
    ⟨(World.ownsRow_lit (base := w.heap.size) (e := 9) (size := 1) w #[] 0 (Nat.le_refl _) (by unfold maxLen; omega) rfl).alloc _, (by
      have := World.ownsRow_lit (base := w.heap.size) (e := 9) (size := 1) (w.alloc (.cells #[] 9)) #[] 0 (by rw [hs1]; omega) (by unfold maxLen; omega) rfl
      rw [hs1] at this
      exact this), fun g h e => (by simp [Value.ownBlock] at h e; omega), ((Below.refl w.heap.size w).alloc (Nat.le_refl _) _).alloc (by rw [hs1]; omega) _⟩)
  generalize hn : L.length = n at *
  have HN := Kp.mk hn
  clear hn ha hv hs1
  go_enter Try.func64, Try.ntmps64
  go_wp2_with fail
  go_loopw [6, 7, 8] (fun fv tv i wr => ∃ k : Nat, k ≤ n ∧ i = .int .i64 k ∧ okL (L.take k) = true ∧ Two51 (frL (L.take k)) (toL (L.take k)) fv tv w wr) (fun _ _ i _ => n - (intOf i).toNat)
  case atStart => exact ⟨0, Nat.zero_le _, rfl, by rw [List.take_zero]; rfl, by rw [List.take_zero]; exact HI0.out⟩
  case round =>
    obtain ⟨k, hk, rfl, hok, hT⟩ := hrel
    have HOK := Kp.mk hok
    have HI := Kp.mk hT
    clear hok hT HI0
    have hfl : (frL (L.take k)).length ≤ 1000 := by have := frL_len (L.take k); rw [List.length_take] at this; omega
    have htl : (toL (L.take k)).length ≤ 1000 := by have := toL_len (L.take k); rw [List.length_take] at this; omega
    by_cases hlt : k < n
    · have hkl : k < L.length := by have := HN.out; omega
      obtain ⟨g, o, rfl, hg, d⟩ := rddr_cells HV.out (by omega)
      obtain ⟨c1, c2⟩ := d k hkl
      have E1 := Kp.mk (okL_take hkl)
      have E2 := Kp.mk (frL_take hkl)
      have E3 := Kp.mk (toL_take hkl)
      have E4 := Kp.mk (okL_bad hkl)
      have q0 : (0 : Int) ≤ (k : Int) := by omega
      have q1 : (k : Int) < (n : Int) := by omega
      clear d
      generalize L[k] = p at *
      obtain ⟨s, t⟩ := p
      dsimp only at c1 c2 E1 E2 E3 E4
      clear hkl
      have z1 := (HI.out.bl.cell (p := ⟨g, o + k * 2, none⟩) hg).trans c1
      have z2 := (HI.out.bl.cell (p := ⟨g, o + k * 2 + 1, none⟩) hg).trans c2
      generalize frL (L.take k) = F at *
      generalize toL (L.take k) = T at *
      have HF := Kp.mk HI.out.f
      have HT := Kp.mk HI.out.t
      have hlenF : (F.length + 1) * 16 ≤ 140737488355328 := by omega
      have hmxF : F.length + 1 ≤ maxLen := by unfold maxLen; omega
      have hlenT : (T.length + 1) * 16 ≤ 140737488355328 := by omega
      have hmxT : T.length + 1 ≤ maxLen := by unfold maxLen; omega
      have hszF := HI.out.bl.size
      have hszT := HI.out.bl.size
      obtain ⟨fa, fc, rfl⟩ := own_lenH HF.out
      obtain ⟨ta, tc, rfl⟩ := own_lenH HT.out
      by_cases hlo : s < 0
      · have hbad : (s == 0 || s == 1 || s == 2) = false := by simp; omega
        have E4a := Kp.mk (E4.out hbad)
        have hR : R = false := by rw [HR.out, E4a.out, Bool.false_and]
        subst hR
        clear E1 E2 E3 E4 E4a
        go_wp2_with fail
        go_ret2
        exact ⟨_, rfl, by rw [HAL.out]; exact RdL.nil (by unfold maxLen; omega), HI.out.bl⟩
      · by_cases hhi : 2 < s
        · have hbad : (s == 0 || s == 1 || s == 2) = false := by simp; omega
          have E4a := Kp.mk (E4.out hbad)
          have hR : R = false := by rw [HR.out, E4a.out, Bool.false_and]
          subst hR
          clear E1 E2 E3 E4 E4a
          go_wp2_with fail
          go_ret2
          exact ⟨_, rfl, by rw [HAL.out]; exact RdL.nil (by unfold maxLen; omega), HI.out.bl⟩
        · by_cases s0 : s = 0
          · subst s0
            clear hlo hhi
            have E1a := Kp.mk (show okL (L.take (k + 1)) = true by rw [E1.out, HOK.out]; rfl)
            have E2a := Kp.mk (show frL (L.take (k + 1)) = F ++ [t] from E2.out.trans (if_pos rfl))
            have E3a := Kp.mk (show toL (L.take (k + 1)) = T ++ [t] from E3.out.trans (if_pos rfl))
            clear E1 E2 E3 E4
            go_upto_region 10 with (at_builtin; refine app_any rfl _ _ _ _ rfl Try.underlying84 _ _ _ Try.infoSH rfl (by omega) w.heap.size _ _ _ rfl HF.out #[.string t] rfl (fun u hu => by simp at hu; subst hu; rfl) _ rfl rfl hlenF hmxF hszF ?_; intro g' cap' w' h1 h2 h3; have HX1 := Kp.mk (HI.out.first h1 h2 rfl h3); have y1 := (HX1.out.bl.cell (p := ⟨g, o + k * 2, none⟩) hg).trans c1; have y2 := (HX1.out.bl.cell (p := ⟨g, o + k * 2 + 1, none⟩) hg).trans c2; clear h1 h2 h3)
            have HT2 := Kp.mk HX1.out.t
            have hszT2 := HX1.out.bl.size
            go_wp2_with (at_builtin; refine app_any rfl _ _ _ _ rfl Try.underlying84 _ _ _ Try.infoSH rfl (by omega) w.heap.size _ _ _ rfl HT2.out #[.string t] rfl (fun u hu => by simp at hu; subst hu; rfl) _ rfl rfl hlenT hmxT hszT2 ?_; intro g' cap' w' h1 h2 h3; have HX := Kp.mk (HX1.out.second h1 h2 rfl h3); clear h1 h2 h3)
            go_wp2_with fail
            go_roundw
            case rel => exact ⟨k + 1, by omega, by go_num, E1a.out, by rw [E2a.out, E3a.out]; exact HX.out⟩
            case measure => simp [intOf] <;> omega
          · by_cases s1 : s = 1
            · subst s1
              clear hlo hhi s0
              have E1a := Kp.mk (show okL (L.take (k + 1)) = true by rw [E1.out, HOK.out]; rfl)
              have E2a := Kp.mk (show frL (L.take (k + 1)) = F ++ [t] from E2.out.trans (if_pos rfl))
              have E3a := Kp.mk (show toL (L.take (k + 1)) = T from E3.out.trans (if_neg (by decide)))
              clear E1 E2 E3 E4
              go_wp2_with (at_builtin; refine app_any rfl _ _ _ _ rfl Try.underlying84 _ _ _ Try.infoSH rfl (by omega) w.heap.size _ _ _ rfl HF.out #[.string t] rfl (fun u hu => by simp at hu; subst hu; rfl) _ rfl rfl hlenF hmxF hszF ?_; intro g' cap' w' h1 h2 h3; have HX1 := Kp.mk (HI.out.first h1 h2 rfl h3); have HX := HX1; have y1 := (HX1.out.bl.cell (p := ⟨g, o + k * 2, none⟩) hg).trans c1; have y2 := (HX1.out.bl.cell (p := ⟨g, o + k * 2 + 1, none⟩) hg).trans c2; clear h1 h2 h3)
              go_wp2_with fail
              go_roundw
              case rel => exact ⟨k + 1, by omega, by go_num, E1a.out, by rw [E2a.out, E3a.out]; exact HX.out⟩
              case measure => simp [intOf] <;> omega
            · obtain rfl : s = 2 := by omega
              clear hlo hhi s0 s1
              have E1a := Kp.mk (show okL (L.take (k + 1)) = true by rw [E1.out, HOK.out]; rfl)
              have E2a := Kp.mk (show frL (L.take (k + 1)) = F from E2.out.trans (if_neg (by decide)))
              have E3a := Kp.mk (show toL (L.take (k + 1)) = T ++ [t] from E3.out.trans (if_pos rfl))
              clear E1 E2 E3 E4
              go_wp2_with (at_builtin; refine app_any rfl _ _ _ _ rfl Try.underlying84 _ _ _ Try.infoSH rfl (by omega) w.heap.size _ _ _ rfl HT.out #[.string t] rfl (fun u hu => by simp at hu; subst hu; rfl) _ rfl rfl hlenT hmxT hszT ?_; intro g' cap' w' h1 h2 h3; have HX := Kp.mk (HI.out.second h1 h2 rfl h3); clear h1 h2 h3)
              go_wp2_with fail
              go_roundw
              case rel => exact ⟨k + 1, by omega, by go_num, E1a.out, by rw [E2a.out, E3a.out]; exact HX.out⟩
              case measure => simp [intOf] <;> omega
    · have hkn : k = n := by omega
      subst hkn
      have HTK := Kp.mk (show L.take k = L from List.take_of_length_le (by have := HN.out; omega))
      rw [HTK.out] at HOK HI hfl htl
      have HFE := Kp.mk (rssame_any _ _ (frL L) a _ (rds_own HI.out.f) (HA.out.below HI.out.bl) (by omega) (by omega))
      have HRR := Kp.mk (show R = sameL (frL L) a by rw [HR.out, HOK.out, Bool.true_and]; rfl)
      obtain ⟨fa, fc, rfl⟩ := own_lenH HI.out.f
      generalize frL L = F at *
      generalize sameL F a = S at *
      have hRS := HRR.out
      subst hRS
      clear HRR
      cases R
      · go_wp2_with fail
        refine HFE.out.mono ?_
        rintro e w2 ⟨rfl, hb2⟩
        go_wp2_with fail
        go_ret2
        exact ⟨_, rfl, by rw [HAL.out]; exact RdL.nil (by unfold maxLen; omega), HI.out.bl.trans (hb2.mono HI.out.bl.size)⟩
      · go_wp2_with fail
        refine HFE.out.mono ?_
        rintro e w2 ⟨rfl, hb2⟩
        have HB2 := Kp.mk hb2
        clear hb2
        go_wp2_with fail
        go_ret2
        exact ⟨_, rfl, by rw [HAL.out]; exact rds_own (HI.out.below HB2.out).t, (HI.out.below HB2.out).bl⟩

end Go.Proofs.Ytnpolkpofaamlaa
