/- Dates of fields (layer 6), plain: what Print writes is read back by Parse (bin/mkdth.py). -/
import Derived.Test.YtgamekfickheaaaDtg
namespace Go.Proofs.Ytgamekfickheaaa
open Go.RowKit
set_option linter.unusedVariables false
set_option linter.unusedSimpArgs false

theorem numback6 (b wide n : Nat) (most : Int) (hb : 10 ≤ b) (hb2 : b ≤ 16) (hw : 1 ≤ wide) (hn : n < 18446744073709551616) (h : (n : Int) ≤ most) :
    numV b (ofL (wdig b wide n)) most = n ∧ numE b (ofL (wdig b wide n)) most = 0 := by
  have hd : (ofL (wdig b wide n)).data.toList = wdig b wide n := by simp [ofL]
  have h0 : (ofL (wdig b wide n)).size ≠ 0 := by
    rw [ba_size, hd]
    intro h
    exact wdig_ne b wide n hw (List.length_eq_zero_iff.1 h)
  have hok : ∀ j, j < (ofL (wdig b wide n)).size → digV (bt (ofL (wdig b wide n)) j) < b := by
    intro j hj
    rw [← bt_list _ j hj]
    have hmem : ∀ c ∈ (ofL (wdig b wide n)).data.toList, digV c.toNat < b := fun c hc => wdig_ok b wide n hb hb2 c (by rw [← hd]; exact hc)
    exact hmem _ (List.getElem_mem _)
  have hv : valN b (ofL (wdig b wide n)).data.toList = n := by rw [hd]; exact wdig_val b wide n hb hb2 hn
  obtain ⟨e1, e2⟩ := num_fits h0 hok (most := most) (by rw [hv]; exact h)
  exact ⟨by rw [e2, hv], e1⟩
theorem wlen2 : ∀ n, n < 100 → (wdig 10 2 n).length = 2 := by decide +kernel
theorem wlen4 (n : Nat) (hn : n < 10000) : (wdig 10 4 n).length = 4 := by
  unfold wdig
  rw [wdigAux_step (.inr (by simp)), wdigAux_step (.inr (by simp)), wdigAux_step (.inr (by simp)), wdigAux_step (.inr (by simp)), wdigAux_stop (by simp; omega)]
  rfl
theorem numL_app (k n : Nat) (hlen : (wdig 10 k n).length = k) (hk : 1 ≤ k) (hn : n ≤ 9999) (R : List UInt8) : numL k (wdig 10 k n ++ R) = some (n : Int) ∧ (wdig 10 k n ++ R).drop k = R := by
  refine ⟨?_, by rw [List.drop_left' hlen]⟩
  unfold numL
  rw [if_neg (by rw [List.length_append, hlen]; omega), List.take_left' hlen]
  obtain ⟨a, b⟩ := numback6 10 k n 9999 (by omega) (by omega) hk (by omega) (by omega)
  rw [if_pos b, a]
theorem pre_self (A R : List UInt8) : Lib.hasPrefix (A ++ R) A = true := by
  unfold Lib.hasPrefix
  rw [List.isPrefixOf_iff_prefix]
  exact List.prefix_append A R
theorem pre_app : ∀ (p A R : List UInt8), p.length ≤ A.length → Lib.hasPrefix (A ++ R) p = Lib.hasPrefix A p
  | [], A, R, _ => by unfold Lib.hasPrefix; simp
  | x :: p, [], R, h => by simp at h
  | x :: p, y :: A, R, h => by
    have ih := pre_app p A R (by simpa using h)
    unfold Lib.hasPrefix at ih ⊢
    show ((x == y) && p.isPrefixOf (A ++ R)) = ((x == y) && p.isPrefixOf A)
    rw [ih]
theorem wd_hit (k : Nat) (hk : k < 7) (R : List UInt8) : wdI 3 (wd3 k ++ R) = some k :=
  find_hit hk (pre_self _ _) fun j hj => (pre_app _ _ _ ((by decide : ∀ k, k < 7 → ∀ j, j < 7 → (wd3 j).length ≤ (wd3 k).length) k hk j (by omega))).trans ((by decide +kernel : ∀ k, k < 7 → ∀ j, j < k → Lib.hasPrefix (wd3 k) (wd3 j) = false) k hk j hj)
theorem mo_hit (k : Nat) (hk : k < 12) (R : List UInt8) : moI ((moS k).data.toList ++ R) = some k :=
  find_hit hk (pre_self _ _) fun j hj => (pre_app _ _ _ ((by decide : ∀ k, k < 12 → ∀ j, j < 12 → (moS j).data.toList.length ≤ (moS k).data.toList.length) k hk j (by omega))).trans ((by decide +kernel : ∀ k, k < 12 → ∀ j, j < k → Lib.hasPrefix (moS k).data.toList (moS j).data.toList = false) k hk j hj)
theorem allS_cons {c : UInt8} {cs : List UInt8} {f g : Fd} (h : oneS c.toNat f = some g) : allS (c :: cs) f = allS cs g := by
  rw [allS, h]
theorem p6_w (k : Nat) (hk : k < 7) (R : List UInt8) (y m d h i s wk : Int) : oneS (119 : UInt8).toNat ⟨wd3 k ++ R, y, m, d, h, i, s, wk⟩ = some ⟨R, y, m, d, h, i, s, k⟩ := by
  unfold oneS
  rw [if_pos (by decide), wd_hit k hk R]
  show some (Fd.mk ((wd3 k ++ R).drop (wd3 k).length) y m d h i s k) = _
  rw [List.drop_left]
theorem p6_b (k : Nat) (hk : k < 12) (R : List UInt8) (y m d h i s wk : Int) : oneS (98 : UInt8).toNat ⟨(moS k).data.toList ++ R, y, m, d, h, i, s, wk⟩ = some ⟨R, y, k + 1, d, h, i, s, wk⟩ := by
  unfold oneS
  rw [if_neg (by decide), if_neg (by decide), if_pos (by decide), mo_hit k hk R]
  show some (Fd.mk (((moS k).data.toList ++ R).drop (moS k).data.toList.length) y (k + 1) d h i s wk) = _
  rw [List.drop_left]
theorem p6_t (c : UInt8) (hc : c = 44 ∨ c = 32 ∨ c = 58 ∨ c = 71 ∨ c = 77 ∨ c = 84) (R : List UInt8) (y m d h i s wk : Int) : oneS c.toNat ⟨c :: R, y, m, d, h, i, s, wk⟩ = some ⟨R, y, m, d, h, i, s, wk⟩ := by
  rcases hc with rfl | rfl | rfl | rfl | rfl | rfl
  all_goals rfl
theorem p6_d (n : Nat) (hn : n ≤ 99) (R : List UInt8) (y m d h i s wk : Int) : oneS (100 : UInt8).toNat ⟨wdig 10 2 n ++ R, y, m, d, h, i, s, wk⟩ = some ⟨R, y, m, n, h, i, s, wk⟩ := by
  have e := numL_app 2 n (wlen2 n (by omega)) (by omega) (by omega) R
  unfold oneS
  rw [if_neg (by decide), if_neg (by decide), if_neg (by decide), if_neg (by decide), if_pos (by decide), e.1]
  show some (Fd.mk ((wdig 10 2 n ++ R).drop 2) y m n h i s wk) = _
  rw [e.2]
theorem p6_y (n : Nat) (hn : n ≤ 9999) (R : List UInt8) (y m d h i s wk : Int) : oneS (121 : UInt8).toNat ⟨wdig 10 4 n ++ R, y, m, d, h, i, s, wk⟩ = some ⟨R, n, m, d, h, i, s, wk⟩ := by
  have e := numL_app 4 n (wlen4 n (by omega)) (by omega) (by omega) R
  unfold oneS
  rw [if_neg (by decide), if_neg (by decide), if_neg (by decide), if_neg (by decide), if_neg (by decide), if_pos (by decide), e.1]
  show some (Fd.mk ((wdig 10 4 n ++ R).drop 4) n m d h i s wk) = _
  rw [e.2]
theorem p6_h (n : Nat) (hn : n ≤ 99) (R : List UInt8) (y m d h i s wk : Int) : oneS (104 : UInt8).toNat ⟨wdig 10 2 n ++ R, y, m, d, h, i, s, wk⟩ = some ⟨R, y, m, d, n, i, s, wk⟩ := by
  have e := numL_app 2 n (wlen2 n (by omega)) (by omega) (by omega) R
  unfold oneS
  rw [if_neg (by decide), if_neg (by decide), if_neg (by decide), if_neg (by decide), if_neg (by decide), if_neg (by decide), if_neg (by decide), if_pos (by decide), e.1]
  show some (Fd.mk ((wdig 10 2 n ++ R).drop 2) y m d n i s wk) = _
  rw [e.2]
theorem p6_i (n : Nat) (hn : n ≤ 99) (R : List UInt8) (y m d h i s wk : Int) : oneS (105 : UInt8).toNat ⟨wdig 10 2 n ++ R, y, m, d, h, i, s, wk⟩ = some ⟨R, y, m, d, h, n, s, wk⟩ := by
  have e := numL_app 2 n (wlen2 n (by omega)) (by omega) (by omega) R
  unfold oneS
  rw [if_neg (by decide), if_neg (by decide), if_neg (by decide), if_neg (by decide), if_neg (by decide), if_neg (by decide), if_neg (by decide), if_neg (by decide), if_pos (by decide), e.1]
  show some (Fd.mk ((wdig 10 2 n ++ R).drop 2) y m d h n s wk) = _
  rw [e.2]
theorem p6_s (n : Nat) (hn : n ≤ 99) (R : List UInt8) (y m d h i s wk : Int) : oneS (115 : UInt8).toNat ⟨wdig 10 2 n ++ R, y, m, d, h, i, s, wk⟩ = some ⟨R, y, m, d, h, i, n, wk⟩ := by
  have e := numL_app 2 n (wlen2 n (by omega)) (by omega) (by omega) R
  unfold oneS
  rw [if_neg (by decide), if_neg (by decide), if_neg (by decide), if_neg (by decide), if_neg (by decide), if_neg (by decide), if_neg (by decide), if_neg (by decide), if_neg (by decide), if_pos (by decide), e.1]
  show some (Fd.mk ((wdig 10 2 n ++ R).drop 2) y m d h i n wk) = _
  rw [e.2]
theorem all_fix (k mn d y H M S : Nat) (hk : k < 7) (hm : mn < 12) (hd : d ≤ 99) (hy : y ≤ 9999) (hH : H ≤ 99) (hM : M ≤ 99) (hS : S ≤ 99) :
    allS [119, 44, 32, 100, 32, 98, 32, 121, 32, 104, 58, 105, 58, 115, 32, 71, 77, 84] (fd0 (wd3 k ++ (44 :: (32 :: (wdig 10 2 d ++ (32 :: ((moS mn).data.toList ++ (32 :: (wdig 10 4 y ++ (32 :: (wdig 10 2 H ++ (58 :: (wdig 10 2 M ++ (58 :: (wdig 10 2 S ++ [32, 71, 77, 84]))))))))))))))) = some ⟨[], y, mn + 1, d, H, M, S, k⟩ := by
  unfold fd0
  refine (allS_cons (p6_w k hk _ _ _ _ _ _ _ _)).trans ?_
  refine (allS_cons (p6_t 44 (by decide) _ _ _ _ _ _ _ _)).trans ?_
  refine (allS_cons (p6_t 32 (by decide) _ _ _ _ _ _ _ _)).trans ?_
  refine (allS_cons (p6_d d hd _ _ _ _ _ _ _ _)).trans ?_
  refine (allS_cons (p6_t 32 (by decide) _ _ _ _ _ _ _ _)).trans ?_
  refine (allS_cons (p6_b mn hm _ _ _ _ _ _ _ _)).trans ?_
  refine (allS_cons (p6_t 32 (by decide) _ _ _ _ _ _ _ _)).trans ?_
  refine (allS_cons (p6_y y hy _ _ _ _ _ _ _ _)).trans ?_
  refine (allS_cons (p6_t 32 (by decide) _ _ _ _ _ _ _ _)).trans ?_
  refine (allS_cons (p6_h H hH _ _ _ _ _ _ _ _)).trans ?_
  refine (allS_cons (p6_t 58 (by decide) _ _ _ _ _ _ _ _)).trans ?_
  refine (allS_cons (p6_i M hM _ _ _ _ _ _ _ _)).trans ?_
  refine (allS_cons (p6_t 58 (by decide) _ _ _ _ _ _ _ _)).trans ?_
  refine (allS_cons (p6_s S hS _ _ _ _ _ _ _ _)).trans ?_
  refine (allS_cons (p6_t 32 (by decide) _ _ _ _ _ _ _ _)).trans ?_
  refine (allS_cons (p6_t 71 (by decide) _ _ _ _ _ _ _ _)).trans ?_
  refine (allS_cons (p6_t 77 (by decide) _ _ _ _ _ _ _ _)).trans ?_
  refine (allS_cons (p6_t 84 (by decide) _ _ _ _ _ _ _ _)).trans ?_
  rfl
theorem padL_two {x : Int} (h : 0 ≤ x) : padL x 2 = wdig 10 2 x.toNat := by unfold padL; rw [if_neg (by omega)]; rfl
theorem padL_four {x : Int} (h : 0 ≤ x) : padL x 4 = wdig 10 4 x.toNat := by unfold padL; rw [if_neg (by omega)]; rfl
/-- What Print writes is read back by the first pattern. -/
theorem prt_read (n : Int) (h : placeB (n / 86400) = true) : allS (patS 0).data.toList (fd0 (pcAcc n 18)) = some ⟨[], dyY n, dyM n, dyD n, dH n, dM n, dS n, weekI (n / 86400)⟩ := by
  obtain ⟨y0, y1, m0, m1, d0, d1⟩ := date_ranges n h
  obtain ⟨a0, a1, b0, b1, c0, c1⟩ := time_ranges n
  have e : pcAcc n 18 = wd3 (wkN n) ++ (44 :: (32 :: (wdig 10 2 (dyD n).toNat ++ (32 :: ((moS (dyM n - 1).toNat).data.toList ++ (32 :: (wdig 10 4 (dyY n).toNat ++ (32 :: (wdig 10 2 (dH n).toNat ++ (58 :: (wdig 10 2 (dM n).toNat ++ (58 :: (wdig 10 2 (dS n).toNat ++ [32, 71, 77, 84]))))))))))))) := by
    rw [← padL_two (by omega), ← padL_four (by omega), ← padL_two a0, ← padL_two b0, ← padL_two c0]
    simp [pcAcc, pcL]
  have hx := all_fix (wkN n) (dyM n - 1).toNat (dyD n).toNat (dyY n).toNat (dH n).toNat (dM n).toNat (dS n).toNat (wkN_lt n) (by omega) (by omega) (by omega) (by omega) (by omega) (by omega)
  rw [← e] at hx
  have e1 : ((dyY n).toNat : Int) = dyY n := Int.toNat_of_nonneg (by omega)
  have e2 : (((dyM n - 1).toNat : Int)) + 1 = dyM n := by rw [Int.toNat_of_nonneg (by omega)]; omega
  have e3 : ((dyD n).toNat : Int) = dyD n := Int.toNat_of_nonneg (by omega)
  have e4 : ((dH n).toNat : Int) = dH n := Int.toNat_of_nonneg a0
  have e5 : ((dM n).toNat : Int) = dM n := Int.toNat_of_nonneg b0
  have e6 : ((dS n).toNat : Int) = dS n := Int.toNat_of_nonneg c0
  rw [e1, e2, e3, e4, e5, e6, ← wkN_eq n] at hx
  rw [show (patS 0).data.toList = [119, 44, 32, 100, 32, 98, 32, 121, 32, 104, 58, 105, 58, 115, 32, 71, 77, 84] from rfl]
  exact hx
theorem sec_again (n : Int) (h : placeB (n / 86400) = true) : secB (dyY n) (dyM n) (dyD n) (dH n) (dM n) (dS n) = true ∧ secI (dyY n) (dyM n) (dyD n) (dH n) (dM n) (dS n) = n := by
  have hp : -719162 ≤ n / 86400 ∧ n / 86400 ≤ 2932896 := by simpa [placeB] using h
  obtain ⟨hd, he⟩ := dayOf_spec hp.1 hp.2
  have ht := time_ranges n
  have hb : secB (dyY n) (dyM n) (dyD n) (dH n) (dM n) (dS n) = true := by
    unfold secB
    rw [(dayB_iff _ _ _).2 hd]
    simp only [timeB, Bool.true_and, decide_eq_true_eq]
    exact ht
  refine ⟨hb, ?_⟩
  unfold secI
  rw [if_pos hb, show placeI (dyY n) (dyM n) (dyD n) = n / 86400 from he]
  unfold dH dM dS
  rw [h]
  simp only [if_true]
  omega
theorem par_again (n now : Int) (h : placeB (n / 86400) = true) (hn : placeB (now / 86400) = true) : parP now (pcAcc n 18) = (n, 1, 0) := by
  obtain ⟨hb, hi⟩ := sec_again n h
  unfold parP
  rw [if_pos hn, parF_some (k := 0) (by decide) (prt_read n h)]
  unfold endP yrP
  simp only [if_neg (show ¬ (0 : Nat) = 1 by decide)]
  rw [hb, hi]
  simp
theorem fix_prt (n now : Int) (h : placeB (n / 86400) = true) : fixF now (pcAcc n 18) = prtB n := by
  unfold fixF
  cases hn : placeB (now / 86400)
  · have : parP now (pcAcc n 18) = (0, 0, 1) := by unfold parP; rw [hn]; rfl
    rw [this]
    unfold prtB
    rw [h]
    rfl
  · rw [par_again n now h hn]
    rfl
/-- What is turned comes from a date. -/
theorem parF_place (now : Int) (L : List UInt8) : ∀ ks, (parF now L ks).2.2 = 0 → placeB ((parF now L ks).1 / 86400) = true
  | [] => by unfold parF; intro h; exact absurd h (by decide)
  | k :: ks => by
    unfold parF
    split
    · exact parF_place now L ks
    · unfold endP
      split
      · rename_i hc
        intro _
        rw [Bool.and_eq_true] at hc
        have hs := hc.1
        unfold secI
        rw [if_pos hs]
        unfold secB at hs
        rw [Bool.and_eq_true] at hs
        have h1 := place_range ((dayB_iff _ _ _).1 hs.1)
        have h2 := hs.2
        simp only [timeB, decide_eq_true_eq] at h2
        simp only [placeB, decide_eq_true_eq]
        omega
      · intro h; exact absurd h (by decide)
theorem fixF_cases (now : Int) (L : List UInt8) : (fixF now L = ofL L ∧ (parP now L).2.2 ≠ 0) ∨ ∃ n, placeB (n / 86400) = true ∧ fixF now L = ofL (pcAcc n 18) := by
  unfold fixF
  by_cases h : (parP now L).2.2 = 0
  · refine .inr ⟨(parP now L).1, ?_, ?_⟩
    · unfold parP at h ⊢
      split
      · rename_i hp
        rw [if_pos hp] at h
        exact parF_place now L _ h
      · rename_i hp
        rw [if_neg hp] at h
        exact absurd h (by decide)
    · rw [if_pos h]
      unfold prtB
      rw [show placeB ((parP now L).1 / 86400) = true by
        unfold parP at h ⊢
        split
        · rename_i hp
          rw [if_pos hp] at h
          exact parF_place now L _ h
        · rename_i hp
          rw [if_neg hp] at h
          exact absurd h (by decide)]
      rfl
  · exact .inl ⟨if_neg h, h⟩
theorem fix_fix (now : Int) (L M : List UInt8) (hM : fixF now L = ofL M) : fixF now M = ofL M := by
  rcases fixF_cases now L with ⟨h1, h2⟩ | ⟨n, hp, h1⟩
  · have : M = L := by have := hM.symm.trans h1; simpa [ofL] using congrArg (fun b => b.data.toList) this
    rw [this, h1]
  · have : M = pcAcc n 18 := by have := hM.symm.trans h1; simpa [ofL] using congrArg (fun b => b.data.toList) this
    rw [this, fix_prt n now hp]
    unfold prtB
    rw [hp]
    rfl
theorem fix_later (now later : Int) (L M : List UInt8) (hM : fixF now L = ofL M) (hne : M ≠ L) : fixF later M = ofL M := by
  rcases fixF_cases now L with ⟨h1, h2⟩ | ⟨n, hp, h1⟩
  · have : M = L := by have := hM.symm.trans h1; simpa [ofL] using congrArg (fun b => b.data.toList) this
    exact absurd this hne
  · have : M = pcAcc n 18 := by have := hM.symm.trans h1; simpa [ofL] using congrArg (fun b => b.data.toList) this
    rw [this, fix_prt n later hp]
    unfold prtB
    rw [hp]
    rfl
end Go.Proofs.Ytgamekfickheaaa
