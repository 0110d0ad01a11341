/- Dates of fields (layer 6), plain: what Print writes is read back by Parse (bin/mkdth.py). · Dates of fields (layer 6), plain: what the document's Write writes in forms 2 and 3 is read back by Parse (bin/mkdtj.py). -/
import Derived.Test.YtgamekfickheaaaGreatDtg
namespace Go.Proofs.YtgamekfickheaaaGreat
open Go.RowKit
set_option linter.unusedVariables false
set_option linter.unusedSimpArgs false

theorem numback6 (b wide n : Nat) (most : Int) (hb : 10 ≤ b) (hb2 : b ≤ 16) (hw : 1 ≤ wide) (hn : n < 18446744073709551616) (h : (n : Int) ≤ most) :
    numV b (ofL (wdig b wide n)) most = n ∧ numE b (ofL (wdig b wide n)) most = 0 := by
  have hd : (ofL (wdig b wide n)).data.toList = wdig b wide n := by simp [ofL]
  have h0 : (ofL (wdig b wide n)).size ≠ 0 := by
    rw [ba_size, hd]
    intro h
    exact wdig_ne b wide n hw (List.length_eq_zero_iff.1 h)
  have hok : ∀ j, j < (ofL (wdig b wide n)).size → digV (bt (ofL (wdig b wide n)) j) < b := by
    intro j hj
    rw [← bt_list _ j hj]
    have hmem : ∀ c ∈ (ofL (wdig b wide n)).data.toList, digV c.toNat < b := fun c hc => wdig_ok b wide n hb hb2 c (by rw [← hd]; exact hc)
    exact hmem _ (List.getElem_mem _)
  have hv : valN b (ofL (wdig b wide n)).data.toList = n := by rw [hd]; exact wdig_val b wide n hb hb2 hn
  obtain ⟨e1, e2⟩ := num_fits h0 hok (most := most) (by rw [hv]; exact h)
  exact ⟨by rw [e2, hv], e1⟩
theorem wlen2 : ∀ n, n < 100 → (wdig 10 2 n).length = 2 := by decide +kernel
theorem wlen4 (n : Nat) (hn : n < 10000) : (wdig 10 4 n).length = 4 := by
  unfold wdig
  rw [wdigAux_step (.inr (by simp)), wdigAux_step (.inr (by simp)), wdigAux_step (.inr (by simp)), wdigAux_step (.inr (by simp)), wdigAux_stop (by simp; omega)]
  rfl
theorem numL_app (k n : Nat) (hlen : (wdig 10 k n).length = k) (hk : 1 ≤ k) (hn : n ≤ 9999) (R : List UInt8) : numL k (wdig 10 k n ++ R) = some (n : Int) ∧ (wdig 10 k n ++ R).drop k = R := by
  refine ⟨?_, by rw [List.drop_left' hlen]⟩
  unfold numL
  rw [if_neg (by rw [List.length_append, hlen]; omega), List.take_left' hlen]
  obtain ⟨a, b⟩ := numback6 10 k n 9999 (by omega) (by omega) hk (by omega) (by omega)
  rw [if_pos b, a]
theorem pre_self (A R : List UInt8) : Lib.hasPrefix (A ++ R) A = true := by
  unfold Lib.hasPrefix
  rw [List.isPrefixOf_iff_prefix]
  exact List.prefix_append A R
theorem pre_app : ∀ (p A R : List UInt8), p.length ≤ A.length → Lib.hasPrefix (A ++ R) p = Lib.hasPrefix A p
  | [], A, R, _ => by unfold Lib.hasPrefix; simp
  | x :: p, [], R, h => by simp at h
  | x :: p, y :: A, R, h => by
    have ih := pre_app p A R (by simpa using h)
    unfold Lib.hasPrefix at ih ⊢
    show ((x == y) && p.isPrefixOf (A ++ R)) = ((x == y) && p.isPrefixOf A)
    rw [ih]
theorem wd_hit (k : Nat) (hk : k < 7) (R : List UInt8) : wdI 3 (wd3 k ++ R) = some k :=
  find_hit hk (pre_self _ _) fun j hj => (pre_app _ _ _ ((by decide : ∀ k, k < 7 → ∀ j, j < 7 → (wd3 j).length ≤ (wd3 k).length) k hk j (by omega))).trans ((by decide +kernel : ∀ k, k < 7 → ∀ j, j < k → Lib.hasPrefix (wd3 k) (wd3 j) = false) k hk j hj)
theorem mo_hit (k : Nat) (hk : k < 12) (R : List UInt8) : moI ((moS k).data.toList ++ R) = some k :=
  find_hit hk (pre_self _ _) fun j hj => (pre_app _ _ _ ((by decide : ∀ k, k < 12 → ∀ j, j < 12 → (moS j).data.toList.length ≤ (moS k).data.toList.length) k hk j (by omega))).trans ((by decide +kernel : ∀ k, k < 12 → ∀ j, j < k → Lib.hasPrefix (moS k).data.toList (moS j).data.toList = false) k hk j hj)
theorem allS_cons {c : UInt8} {cs : List UInt8} {f g : Fd} (h : oneS c.toNat f = some g) : allS (c :: cs) f = allS cs g := by
  rw [allS, h]
theorem p6_w (k : Nat) (hk : k < 7) (R : List UInt8) (y m d h i s wk : Int) : oneS (119 : UInt8).toNat ⟨wd3 k ++ R, y, m, d, h, i, s, wk⟩ = some ⟨R, y, m, d, h, i, s, k⟩ := by
  unfold oneS
  rw [if_pos (by decide), wd_hit k hk R]
  show some (Fd.mk ((wd3 k ++ R).drop (wd3 k).length) y m d h i s k) = _
  rw [List.drop_left]
theorem p6_b (k : Nat) (hk : k < 12) (R : List UInt8) (y m d h i s wk : Int) : oneS (98 : UInt8).toNat ⟨(moS k).data.toList ++ R, y, m, d, h, i, s, wk⟩ = some ⟨R, y, k + 1, d, h, i, s, wk⟩ := by
  unfold oneS
  rw [if_neg (by decide), if_neg (by decide), if_pos (by decide), mo_hit k hk R]
  show some (Fd.mk (((moS k).data.toList ++ R).drop (moS k).data.toList.length) y (k + 1) d h i s wk) = _
  rw [List.drop_left]
theorem p6_t (c : UInt8) (hc : c = 44 ∨ c = 32 ∨ c = 58 ∨ c = 71 ∨ c = 77 ∨ c = 84) (R : List UInt8) (y m d h i s wk : Int) : oneS c.toNat ⟨c :: R, y, m, d, h, i, s, wk⟩ = some ⟨R, y, m, d, h, i, s, wk⟩ := by
  rcases hc with rfl | rfl | rfl | rfl | rfl | rfl
  all_goals rfl
theorem p6_d (n : Nat) (hn : n ≤ 99) (R : List UInt8) (y m d h i s wk : Int) : oneS (100 : UInt8).toNat ⟨wdig 10 2 n ++ R, y, m, d, h, i, s, wk⟩ = some ⟨R, y, m, n, h, i, s, wk⟩ := by
  have e := numL_app 2 n (wlen2 n (by omega)) (by omega) (by omega) R
  unfold oneS
  rw [if_neg (by decide), if_neg (by decide), if_neg (by decide), if_neg (by decide), if_pos (by decide), e.1]
  show some (Fd.mk ((wdig 10 2 n ++ R).drop 2) y m n h i s wk) = _
  rw [e.2]
theorem p6_y (n : Nat) (hn : n ≤ 9999) (R : List UInt8) (y m d h i s wk : Int) : oneS (121 : UInt8).toNat ⟨wdig 10 4 n ++ R, y, m, d, h, i, s, wk⟩ = some ⟨R, n, m, d, h, i, s, wk⟩ := by
  have e := numL_app 4 n (wlen4 n (by omega)) (by omega) (by omega) R
  unfold oneS
  rw [if_neg (by decide), if_neg (by decide), if_neg (by decide), if_neg (by decide), if_neg (by decide), if_pos (by decide), e.1]
  show some (Fd.mk ((wdig 10 4 n ++ R).drop 4) n m d h i s wk) = _
  rw [e.2]
theorem p6_h (n : Nat) (hn : n ≤ 99) (R : List UInt8) (y m d h i s wk : Int) : oneS (104 : UInt8).toNat ⟨wdig 10 2 n ++ R, y, m, d, h, i, s, wk⟩ = some ⟨R, y, m, d, n, i, s, wk⟩ := by
  have e := numL_app 2 n (wlen2 n (by omega)) (by omega) (by omega) R
  unfold oneS
  rw [if_neg (by decide), if_neg (by decide), if_neg (by decide), if_neg (by decide), if_neg (by decide), if_neg (by decide), if_neg (by decide), if_pos (by decide), e.1]
  show some (Fd.mk ((wdig 10 2 n ++ R).drop 2) y m d n i s wk) = _
  rw [e.2]
theorem p6_i (n : Nat) (hn : n ≤ 99) (R : List UInt8) (y m d h i s wk : Int) : oneS (105 : UInt8).toNat ⟨wdig 10 2 n ++ R, y, m, d, h, i, s, wk⟩ = some ⟨R, y, m, d, h, n, s, wk⟩ := by
  have e := numL_app 2 n (wlen2 n (by omega)) (by omega) (by omega) R
  unfold oneS
  rw [if_neg (by decide), if_neg (by decide), if_neg (by decide), if_neg (by decide), if_neg (by decide), if_neg (by decide), if_neg (by decide), if_neg (by decide), if_pos (by decide), e.1]
  show some (Fd.mk ((wdig 10 2 n ++ R).drop 2) y m d h n s wk) = _
  rw [e.2]
theorem p6_s (n : Nat) (hn : n ≤ 99) (R : List UInt8) (y m d h i s wk : Int) : oneS (115 : UInt8).toNat ⟨wdig 10 2 n ++ R, y, m, d, h, i, s, wk⟩ = some ⟨R, y, m, d, h, i, n, wk⟩ := by
  have e := numL_app 2 n (wlen2 n (by omega)) (by omega) (by omega) R
  unfold oneS
  rw [if_neg (by decide), if_neg (by decide), if_neg (by decide), if_neg (by decide), if_neg (by decide), if_neg (by decide), if_neg (by decide), if_neg (by decide), if_neg (by decide), if_pos (by decide), e.1]
  show some (Fd.mk ((wdig 10 2 n ++ R).drop 2) y m d h i n wk) = _
  rw [e.2]
theorem all_fix (k mn d y H M S : Nat) (hk : k < 7) (hm : mn < 12) (hd : d ≤ 99) (hy : y ≤ 9999) (hH : H ≤ 99) (hM : M ≤ 99) (hS : S ≤ 99) :
    allS [119, 44, 32, 100, 32, 98, 32, 121, 32, 104, 58, 105, 58, 115, 32, 71, 77, 84] (fd0 (wd3 k ++ (44 :: (32 :: (wdig 10 2 d ++ (32 :: ((moS mn).data.toList ++ (32 :: (wdig 10 4 y ++ (32 :: (wdig 10 2 H ++ (58 :: (wdig 10 2 M ++ (58 :: (wdig 10 2 S ++ [32, 71, 77, 84]))))))))))))))) = some ⟨[], y, mn + 1, d, H, M, S, k⟩ := by
  unfold fd0
  refine (allS_cons (p6_w k hk _ _ _ _ _ _ _ _)).trans ?_
  refine (allS_cons (p6_t 44 (by decide) _ _ _ _ _ _ _ _)).trans ?_
  refine (allS_cons (p6_t 32 (by decide) _ _ _ _ _ _ _ _)).trans ?_
  refine (allS_cons (p6_d d hd _ _ _ _ _ _ _ _)).trans ?_
  refine (allS_cons (p6_t 32 (by decide) _ _ _ _ _ _ _ _)).trans ?_
  refine (allS_cons (p6_b mn hm _ _ _ _ _ _ _ _)).trans ?_
  refine (allS_cons (p6_t 32 (by decide) _ _ _ _ _ _ _ _)).trans ?_
  refine (allS_cons (p6_y y hy _ _ _ _ _ _ _ _)).trans ?_
  refine (allS_cons (p6_t 32 (by decide) _ _ _ _ _ _ _ _)).trans ?_
  refine (allS_cons (p6_h H hH _ _ _ _ _ _ _ _)).trans ?_
  refine (allS_cons (p6_t 58 (by decide) _ _ _ _ _ _ _ _)).trans ?_
  refine (allS_cons (p6_i M hM _ _ _ _ _ _ _ _)).trans ?_
  refine (allS_cons (p6_t 58 (by decide) _ _ _ _ _ _ _ _)).trans ?_
  refine (allS_cons (p6_s S hS _ _ _ _ _ _ _ _)).trans ?_
  refine (allS_cons (p6_t 32 (by decide) _ _ _ _ _ _ _ _)).trans ?_
  refine (allS_cons (p6_t 71 (by decide) _ _ _ _ _ _ _ _)).trans ?_
  refine (allS_cons (p6_t 77 (by decide) _ _ _ _ _ _ _ _)).trans ?_
  refine (allS_cons (p6_t 84 (by decide) _ _ _ _ _ _ _ _)).trans ?_
  rfl
theorem padL_two {x : Int} (h : 0 ≤ x) : padL x 2 = wdig 10 2 x.toNat := by unfold padL; rw [if_neg (by omega)]; rfl
theorem padL_four {x : Int} (h : 0 ≤ x) : padL x 4 = wdig 10 4 x.toNat := by unfold padL; rw [if_neg (by omega)]; rfl
/-- What Print writes is read back by the first pattern. -/
theorem prt_read (n : Int) (h : placeB (n / 86400) = true) : allS (patS 0).data.toList (fd0 (pcAcc n 18)) = some ⟨[], dyY n, dyM n, dyD n, dH n, dM n, dS n, weekI (n / 86400)⟩ := by
  obtain ⟨y0, y1, m0, m1, d0, d1⟩ := date_ranges n h
  obtain ⟨a0, a1, b0, b1, c0, c1⟩ := time_ranges n
  have e : pcAcc n 18 = wd3 (wkN n) ++ (44 :: (32 :: (wdig 10 2 (dyD n).toNat ++ (32 :: ((moS (dyM n - 1).toNat).data.toList ++ (32 :: (wdig 10 4 (dyY n).toNat ++ (32 :: (wdig 10 2 (dH n).toNat ++ (58 :: (wdig 10 2 (dM n).toNat ++ (58 :: (wdig 10 2 (dS n).toNat ++ [32, 71, 77, 84]))))))))))))) := by
    rw [← padL_two (by omega), ← padL_four (by omega), ← padL_two a0, ← padL_two b0, ← padL_two c0]
    simp [pcAcc, pcL]
  have hx := all_fix (wkN n) (dyM n - 1).toNat (dyD n).toNat (dyY n).toNat (dH n).toNat (dM n).toNat (dS n).toNat (wkN_lt n) (by omega) (by omega) (by omega) (by omega) (by omega) (by omega)
  rw [← e] at hx
  have e1 : ((dyY n).toNat : Int) = dyY n := Int.toNat_of_nonneg (by omega)
  have e2 : (((dyM n - 1).toNat : Int)) + 1 = dyM n := by rw [Int.toNat_of_nonneg (by omega)]; omega
  have e3 : ((dyD n).toNat : Int) = dyD n := Int.toNat_of_nonneg (by omega)
  have e4 : ((dH n).toNat : Int) = dH n := Int.toNat_of_nonneg a0
  have e5 : ((dM n).toNat : Int) = dM n := Int.toNat_of_nonneg b0
  have e6 : ((dS n).toNat : Int) = dS n := Int.toNat_of_nonneg c0
  rw [e1, e2, e3, e4, e5, e6, ← wkN_eq n] at hx
  rw [show (patS 0).data.toList = [119, 44, 32, 100, 32, 98, 32, 121, 32, 104, 58, 105, 58, 115, 32, 71, 77, 84] from rfl]
  exact hx
theorem sec_again (n : Int) (h : placeB (n / 86400) = true) : secB (dyY n) (dyM n) (dyD n) (dH n) (dM n) (dS n) = true ∧ secI (dyY n) (dyM n) (dyD n) (dH n) (dM n) (dS n) = n := by
  have hp : -719162 ≤ n / 86400 ∧ n / 86400 ≤ 2932896 := by simpa [placeB] using h
  obtain ⟨hd, he⟩ := dayOf_spec hp.1 hp.2
  have ht := time_ranges n
  have hb : secB (dyY n) (dyM n) (dyD n) (dH n) (dM n) (dS n) = true := by
    unfold secB
    rw [(dayB_iff _ _ _).2 hd]
    simp only [timeB, Bool.true_and, decide_eq_true_eq]
    exact ht
  refine ⟨hb, ?_⟩
  unfold secI
  rw [if_pos hb, show placeI (dyY n) (dyM n) (dyD n) = n / 86400 from he]
  unfold dH dM dS
  rw [h]
  simp only [if_true]
  omega
theorem par_again (n now : Int) (h : placeB (n / 86400) = true) (hn : placeB (now / 86400) = true) : parP now (pcAcc n 18) = (n, 1, 0) := by
  obtain ⟨hb, hi⟩ := sec_again n h
  unfold parP
  rw [if_pos hn, parF_some (k := 0) (by decide) (prt_read n h)]
  unfold endP yrP
  simp only [if_neg (show ¬ (0 : Nat) = 1 by decide)]
  rw [hb, hi]
  simp
theorem fix_prt (n now : Int) (h : placeB (n / 86400) = true) : fixF now (pcAcc n 18) = prtB n := by
  unfold fixF
  cases hn : placeB (now / 86400)
  · have : parP now (pcAcc n 18) = (0, 0, 1) := by unfold parP; rw [hn]; rfl
    rw [this]
    unfold prtB
    rw [h]
    rfl
  · rw [par_again n now h hn]
    rfl
/-- What is turned comes from a date. -/
theorem parF_place (now : Int) (L : List UInt8) : ∀ ks, (parF now L ks).2.2 = 0 → placeB ((parF now L ks).1 / 86400) = true
  | [] => by unfold parF; intro h; exact absurd h (by decide)
  | k :: ks => by
    unfold parF
    split
    · exact parF_place now L ks
    · unfold endP
      split
      · rename_i hc
        intro _
        rw [Bool.and_eq_true] at hc
        have hs := hc.1
        unfold secI
        rw [if_pos hs]
        unfold secB at hs
        rw [Bool.and_eq_true] at hs
        have h1 := place_range ((dayB_iff _ _ _).1 hs.1)
        have h2 := hs.2
        simp only [timeB, decide_eq_true_eq] at h2
        simp only [placeB, decide_eq_true_eq]
        omega
      · intro h; exact absurd h (by decide)
theorem fixF_cases (now : Int) (L : List UInt8) : (fixF now L = ofL L ∧ (parP now L).2.2 ≠ 0) ∨ ∃ n, placeB (n / 86400) = true ∧ fixF now L = ofL (pcAcc n 18) := by
  unfold fixF
  by_cases h : (parP now L).2.2 = 0
  · refine .inr ⟨(parP now L).1, ?_, ?_⟩
    · unfold parP at h ⊢
      split
      · rename_i hp
        rw [if_pos hp] at h
        exact parF_place now L _ h
      · rename_i hp
        rw [if_neg hp] at h
        exact absurd h (by decide)
    · rw [if_pos h]
      unfold prtB
      rw [show placeB ((parP now L).1 / 86400) = true by
        unfold parP at h ⊢
        split
        · rename_i hp
          rw [if_pos hp] at h
          exact parF_place now L _ h
        · rename_i hp
          rw [if_neg hp] at h
          exact absurd h (by decide)]
      rfl
  · exact .inl ⟨if_neg h, h⟩
theorem fix_fix (now : Int) (L M : List UInt8) (hM : fixF now L = ofL M) : fixF now M = ofL M := by
  rcases fixF_cases now L with ⟨h1, h2⟩ | ⟨n, hp, h1⟩
  · have : M = L := by have := hM.symm.trans h1; simpa [ofL] using congrArg (fun b => b.data.toList) this
    rw [this, h1]
  · have : M = pcAcc n 18 := by have := hM.symm.trans h1; simpa [ofL] using congrArg (fun b => b.data.toList) this
    rw [this, fix_prt n now hp]
    unfold prtB
    rw [hp]
    rfl
theorem fix_later (now later : Int) (L M : List UInt8) (hM : fixF now L = ofL M) (hne : M ≠ L) : fixF later M = ofL M := by
  rcases fixF_cases now L with ⟨h1, h2⟩ | ⟨n, hp, h1⟩
  · have : M = L := by have := hM.symm.trans h1; simpa [ofL] using congrArg (fun b => b.data.toList) this
    exact absurd this hne
  · have : M = pcAcc n 18 := by have := hM.symm.trans h1; simpa [ofL] using congrArg (fun b => b.data.toList) this
    rw [this, fix_prt n later hp]
    unfold prtB
    rw [hp]
    rfl
end Go.Proofs.YtgamekfickheaaaGreat
namespace Go.Proofs.YtgamekfickheaaaGreat
open Go.RowKit
set_option linter.unusedVariables false
set_option linter.unusedSimpArgs false

theorem pre_take {s p : List UInt8} (m : Nat) (h : Lib.hasPrefix s p = true) : Lib.hasPrefix s (p.take m) = true := by
  unfold Lib.hasPrefix at h ⊢
  rw [List.isPrefixOf_iff_prefix] at h ⊢
  exact (List.take_prefix m p).trans h
theorem wd_full (k : Nat) (hk : k < 7) (R : List UInt8) : wdI 9 ((wdS k).data.toList.take 9 ++ R) = some k :=
  find_hit hk (pre_self _ _) fun j hj => by
    cases hp : Lib.hasPrefix ((wdS k).data.toList.take 9 ++ R) ((wdS j).data.toList.take 9) with
    | false => rfl
    | true =>
      have h3 := pre_take 3 hp
      rw [pre_app _ _ _ ((by decide : ∀ k, k < 7 → ∀ j, j < 7 → (((wdS j).data.toList.take 9).take 3).length ≤ ((wdS k).data.toList.take 9).length) k hk j (by omega))] at h3
      rw [(by decide +kernel : ∀ k, k < 7 → ∀ j, j < k → Lib.hasPrefix ((wdS k).data.toList.take 9) (((wdS j).data.toList.take 9).take 3) = false) k hk j hj] at h3
      cases h3
/-- Three letters and a blank are no whole name. -/
theorem wd_short (k : Nat) (hk : k < 7) (R : List UInt8) : wdI 9 (wd3 k ++ (32 :: R)) = none :=
  find_none fun j hj => by
    cases hp : Lib.hasPrefix (wd3 k ++ (32 :: R)) ((wdS j).data.toList.take 9) with
    | false => rfl
    | true =>
      have h4 := pre_take 4 hp
      rw [show wd3 k ++ (32 :: R) = (wd3 k ++ [32]) ++ R by simp, pre_app _ _ _ ((by decide : ∀ k, k < 7 → ∀ j, j < 7 → (((wdS j).data.toList.take 9).take 4).length ≤ (wd3 k ++ [32]).length) k hk j hj)] at h4
      rw [(by decide +kernel : ∀ k, k < 7 → ∀ j, j < 7 → Lib.hasPrefix (wd3 k ++ [32]) (((wdS j).data.toList.take 9).take 4) = false) k hk j hj] at h4
      cases h4
theorem wd_split (k : Nat) (hk : k < 7) : (wdS k).data.toList.take 9 = wd3 k ++ (wdS k).data.toList.drop 3 ∧ ∃ x T, (wdS k).data.toList.drop 3 = x :: T ∧ ([(44 : UInt8)].isPrefixOf [x]) = false := by
  rcases (by omega : k = 0 ∨ k = 1 ∨ k = 2 ∨ k = 3 ∨ k = 4 ∨ k = 5 ∨ k = 6) with rfl | rfl | rfl | rfl | rfl | rfl | rfl
  all_goals exact ⟨by decide, _, _, rfl, by decide⟩
theorem allS_stop {c : UInt8} {cs : List UInt8} {f : Fd} (h : oneS c.toNat f = none) : allS (c :: cs) f = none := by
  rw [allS, h]
theorem p6_l (k : Nat) (hk : k < 7) (R : List UInt8) (y m d h i s wk : Int) : oneS (108 : UInt8).toNat ⟨(wdS k).data.toList.take 9 ++ R, y, m, d, h, i, s, wk⟩ = some ⟨R, y, m, d, h, i, s, k⟩ := by
  unfold oneS
  rw [if_neg (by decide), if_pos (by decide), wd_full k hk R]
  show some (Fd.mk (((wdS k).data.toList.take 9 ++ R).drop ((wdS k).data.toList.take 9).length) y m d h i s k) = _
  rw [List.drop_left]
theorem p6_l_none (k : Nat) (hk : k < 7) (R : List UInt8) (y m d h i s wk : Int) : oneS (108 : UInt8).toNat ⟨wd3 k ++ (32 :: R), y, m, d, h, i, s, wk⟩ = none := by
  unfold oneS
  rw [if_neg (by decide), if_pos (by decide), wd_short k hk R]
  rfl
theorem p6_comma (x : UInt8) (hx : ([(44 : UInt8)].isPrefixOf [x]) = false) (R : List UInt8) (y m d h i s wk : Int) : oneS (44 : UInt8).toNat ⟨x :: R, y, m, d, h, i, s, wk⟩ = none := by
  have e : Lib.hasPrefix (x :: R) [44] = false := by
    have := pre_app [44] [x] R (by simp)
    rw [show [x] ++ R = x :: R from rfl] at this
    rw [this]
    exact hx
  show txL [UInt8.ofNat 44] ⟨x :: R, y, m, d, h, i, s, wk⟩ = none
  unfold txL
  rw [show [UInt8.ofNat 44] = [(44 : UInt8)] from rfl, e]
  rfl
theorem p6_dash (R : List UInt8) (y m d h i s wk : Int) : oneS (45 : UInt8).toNat ⟨45 :: R, y, m, d, h, i, s, wk⟩ = some ⟨R, y, m, d, h, i, s, wk⟩ := rfl
theorem p6_e (n : Nat) (hn : n ≤ 99) (R : List UInt8) (y m d h i s wk : Int) : oneS (101 : UInt8).toNat ⟨wdig 10 2 n ++ R, y, m, d, h, i, s, wk⟩ = some ⟨R, n, m, d, h, i, s, wk⟩ := by
  have e := numL_app 2 n (wlen2 n (by omega)) (by omega) (by omega) R
  unfold oneS
  rw [if_neg (by decide), if_neg (by decide), if_neg (by decide), if_neg (by decide), if_neg (by decide), if_neg (by decide), if_pos (by decide), e.1]
  show some (Fd.mk ((wdig 10 2 n ++ R).drop 2) n m d h i s wk) = _
  rw [e.2]
/-- A day in the third form. -/
def dayL (d : Nat) : List UInt8 := if d < 10 then 32 :: wdig 10 1 d else wdig 10 1 d
theorem wlen1 : ∀ n, n < 10 → (wdig 10 1 n).length = 1 := by decide +kernel
theorem wone_two : ∀ n, n < 100 → 10 ≤ n → wdig 10 1 n = wdig 10 2 n ∧ Lib.hasPrefix (wdig 10 2 n) [32] = false := by decide +kernel
theorem p6_p (n : Nat) (hn : n ≤ 99) (R : List UInt8) (y m d h i s wk : Int) : oneS (112 : UInt8).toNat ⟨dayL n ++ R, y, m, d, h, i, s, wk⟩ = some ⟨R, y, m, n, h, i, s, wk⟩ := by
  unfold oneS dayL
  rw [if_neg (by decide), if_neg (by decide), if_neg (by decide), if_pos (by decide)]
  by_cases h10 : n < 10
  · have e := numL_app 1 n (wlen1 n h10) (by omega) (by omega) R
    rw [if_pos h10]
    have hp : Lib.hasPrefix (32 :: wdig 10 1 n ++ R) [32] = true := rfl
    show (if Lib.hasPrefix (32 :: wdig 10 1 n ++ R) [32] = true then (numL 1 (wdig 10 1 n ++ R)).map fun v => (Fd.mk ((wdig 10 1 n ++ R).drop 1) y m v h i s wk) else _) = _
    rw [if_pos hp, e.1, e.2]
    rfl
  · have e := numL_app 2 n (wlen2 n (by omega)) (by omega) (by omega) R
    obtain ⟨e1, e2⟩ := wone_two n (by omega) (by omega)
    rw [if_neg h10, e1]
    have hp : Lib.hasPrefix (wdig 10 2 n ++ R) [32] = false := by rw [pre_app _ _ _ (by rw [wlen2 n (by omega)]; decide)]; exact e2
    rw [if_neg (by rw [hp]; decide)]
    show (numL 2 (wdig 10 2 n ++ R)).map (fun v => (Fd.mk ((wdig 10 2 n ++ R).drop 2) y m v h i s wk)) = _
    rw [e.1, e.2]
    rfl
def elder2 (k mn d y H M S : Nat) : List UInt8 := ((wdS k).data.toList.take 9 ++ (44 :: (32 :: (wdig 10 2 d ++ (45 :: ((moS mn).data.toList ++ (45 :: (wdig 10 2 y ++ (32 :: (wdig 10 2 H ++ (58 :: (wdig 10 2 M ++ (58 :: (wdig 10 2 S ++ [32, 71, 77, 84]))))))))))))))
def plain3 (k mn d y H M S : Nat) : List UInt8 := (wd3 k ++ (32 :: ((moS mn).data.toList ++ (32 :: (dayL d ++ (32 :: (wdig 10 2 H ++ (58 :: (wdig 10 2 M ++ (58 :: (wdig 10 2 S ++ (32 :: (wdig 10 4 y ++ [])))))))))))))
theorem all_elder (k mn d y H M S : Nat) (hk : k < 7) (hm : mn < 12) (hd : d ≤ 99) (hy : y ≤ 99) (hH : H ≤ 99) (hM : M ≤ 99) (hS : S ≤ 99) : allS [108, 44, 32, 100, 45, 98, 45, 101, 32, 104, 58, 105, 58, 115, 32, 71, 77, 84] (fd0 (elder2 k mn d y H M S)) = some ⟨[], y, mn + 1, d, H, M, S, k⟩ := by
  unfold fd0 elder2
  refine (allS_cons (p6_l k hk _ _ _ _ _ _ _ _)).trans ?_
  refine (allS_cons (p6_t 44 (by decide) _ _ _ _ _ _ _ _)).trans ?_
  refine (allS_cons (p6_t 32 (by decide) _ _ _ _ _ _ _ _)).trans ?_
  refine (allS_cons (p6_d d hd _ _ _ _ _ _ _ _)).trans ?_
  refine (allS_cons (p6_dash _ _ _ _ _ _ _ _)).trans ?_
  refine (allS_cons (p6_b mn hm _ _ _ _ _ _ _ _)).trans ?_
  refine (allS_cons (p6_dash _ _ _ _ _ _ _ _)).trans ?_
  refine (allS_cons (p6_e y hy _ _ _ _ _ _ _ _)).trans ?_
  refine (allS_cons (p6_t 32 (by decide) _ _ _ _ _ _ _ _)).trans ?_
  refine (allS_cons (p6_h H hH _ _ _ _ _ _ _ _)).trans ?_
  refine (allS_cons (p6_t 58 (by decide) _ _ _ _ _ _ _ _)).trans ?_
  refine (allS_cons (p6_i M hM _ _ _ _ _ _ _ _)).trans ?_
  refine (allS_cons (p6_t 58 (by decide) _ _ _ _ _ _ _ _)).trans ?_
  refine (allS_cons (p6_s S hS _ _ _ _ _ _ _ _)).trans ?_
  refine (allS_cons (p6_t 32 (by decide) _ _ _ _ _ _ _ _)).trans ?_
  refine (allS_cons (p6_t 71 (by decide) _ _ _ _ _ _ _ _)).trans ?_
  refine (allS_cons (p6_t 77 (by decide) _ _ _ _ _ _ _ _)).trans ?_
  refine (allS_cons (p6_t 84 (by decide) _ _ _ _ _ _ _ _)).trans ?_
  rfl
theorem all_plain (k mn d y H M S : Nat) (hk : k < 7) (hm : mn < 12) (hd : d ≤ 99) (hy : y ≤ 9999) (hH : H ≤ 99) (hM : M ≤ 99) (hS : S ≤ 99) : allS [119, 32, 98, 32, 112, 32, 104, 58, 105, 58, 115, 32, 121] (fd0 (plain3 k mn d y H M S)) = some ⟨[], y, mn + 1, d, H, M, S, k⟩ := by
  unfold fd0 plain3
  refine (allS_cons (p6_w k hk _ _ _ _ _ _ _ _)).trans ?_
  refine (allS_cons (p6_t 32 (by decide) _ _ _ _ _ _ _ _)).trans ?_
  refine (allS_cons (p6_b mn hm _ _ _ _ _ _ _ _)).trans ?_
  refine (allS_cons (p6_t 32 (by decide) _ _ _ _ _ _ _ _)).trans ?_
  refine (allS_cons (p6_p d hd _ _ _ _ _ _ _ _)).trans ?_
  refine (allS_cons (p6_t 32 (by decide) _ _ _ _ _ _ _ _)).trans ?_
  refine (allS_cons (p6_h H hH _ _ _ _ _ _ _ _)).trans ?_
  refine (allS_cons (p6_t 58 (by decide) _ _ _ _ _ _ _ _)).trans ?_
  refine (allS_cons (p6_i M hM _ _ _ _ _ _ _ _)).trans ?_
  refine (allS_cons (p6_t 58 (by decide) _ _ _ _ _ _ _ _)).trans ?_
  refine (allS_cons (p6_s S hS _ _ _ _ _ _ _ _)).trans ?_
  refine (allS_cons (p6_t 32 (by decide) _ _ _ _ _ _ _ _)).trans ?_
  refine (allS_cons (p6_y y hy _ _ _ _ _ _ _ _)).trans ?_
  rfl
theorem elder_not1 (k mn d y H M S : Nat) (hk : k < 7) : allS [119, 44, 32, 100, 32, 98, 32, 121, 32, 104, 58, 105, 58, 115, 32, 71, 77, 84] (fd0 (elder2 k mn d y H M S)) = none := by
  unfold fd0 elder2
  obtain ⟨e, x, T, e2, hx⟩ := wd_split k hk
  rw [e, e2, List.append_assoc, List.cons_append]
  refine (allS_cons (p6_w k hk _ _ _ _ _ _ _ _)).trans ?_
  exact allS_stop (p6_comma x hx _ _ _ _ _ _ _ _)
theorem plain_not1 (k mn d y H M S : Nat) (hk : k < 7) : allS [119, 44, 32, 100, 32, 98, 32, 121, 32, 104, 58, 105, 58, 115, 32, 71, 77, 84] (fd0 (plain3 k mn d y H M S)) = none := by
  unfold fd0 plain3
  refine (allS_cons (p6_w k hk _ _ _ _ _ _ _ _)).trans ?_
  exact allS_stop (p6_comma 32 (by decide) _ _ _ _ _ _ _ _)
theorem plain_not2 (k mn d y H M S : Nat) (hk : k < 7) : allS [108, 44, 32, 100, 45, 98, 45, 101, 32, 104, 58, 105, 58, 115, 32, 71, 77, 84] (fd0 (plain3 k mn d y H M S)) = none := by
  unfold fd0 plain3
  exact allS_stop (p6_l_none k hk _ _ _ _ _ _ _ _)
/-- The texts of forms 2 and 3 of a date. -/
noncomputable def elderN (n : Int) : List UInt8 := elder2 (wkN n) (dyM n - 1).toNat (dyD n).toNat (dyY n % 100).toNat (dH n).toNat (dM n).toNat (dS n).toNat
noncomputable def plainN (n : Int) : List UInt8 := plain3 (wkN n) (dyM n - 1).toNat (dyD n).toNat (dyY n).toNat (dH n).toNat (dM n).toNat (dS n).toNat
theorem lat_back {Y b : Int} (h1 : b - 50 < Y) (h2 : Y ≤ b + 50) : latI (Y % 100) (b + 50) = Y := by
  unfold latI
  omega
theorem par_plain (n now : Int) (h : placeB (n / 86400) = true) (hn : placeB (now / 86400) = true) : parP now (plainN n) = (n, 3, 0) := by
  obtain ⟨hb, hi⟩ := sec_again n h
  obtain ⟨y0, y1, m0, m1, d0, d1⟩ := date_ranges n h
  obtain ⟨a0, a1, b0, b1, c0, c1⟩ := time_ranges n
  have hx := all_plain (wkN n) (dyM n - 1).toNat (dyD n).toNat (dyY n).toNat (dH n).toNat (dM n).toNat (dS n).toNat (wkN_lt n) (by omega) (by omega) (by omega) (by omega) (by omega) (by omega)
  have e1 : ((dyY n).toNat : Int) = dyY n := Int.toNat_of_nonneg (by omega)
  have e2 : (((dyM n - 1).toNat : Int)) + 1 = dyM n := by rw [Int.toNat_of_nonneg (by omega)]; omega
  have e3 : ((dyD n).toNat : Int) = dyD n := Int.toNat_of_nonneg (by omega)
  have e4 : ((dH n).toNat : Int) = dH n := Int.toNat_of_nonneg a0
  have e5 : ((dM n).toNat : Int) = dM n := Int.toNat_of_nonneg b0
  have e6 : ((dS n).toNat : Int) = dS n := Int.toNat_of_nonneg c0
  rw [e1, e2, e3, e4, e5, e6, ← wkN_eq n] at hx
  unfold parP plainN
  rw [if_pos hn, (parF_none (k := 0) (by decide) (plain_not1 _ _ _ _ _ _ _ (wkN_lt n))).trans ((parF_none (k := 1) (by decide) (plain_not2 _ _ _ _ _ _ _ (wkN_lt n))).trans (parF_some (k := 2) (by decide) hx))]
  unfold endP yrP
  simp only [if_neg (show ¬ (2 : Nat) = 1 by decide)]
  rw [hb, hi]
  simp
theorem par_elder (n now : Int) (h : placeB (n / 86400) = true) (hn : placeB (now / 86400) = true) (h1 : yrN now - 50 < dyY n) (h2 : dyY n ≤ yrN now + 50) : parP now (elderN n) = (n, 2, 0) := by
  obtain ⟨hb, hi⟩ := sec_again n h
  obtain ⟨y0, y1, m0, m1, d0, d1⟩ := date_ranges n h
  obtain ⟨a0, a1, b0, b1, c0, c1⟩ := time_ranges n
  have hx := all_elder (wkN n) (dyM n - 1).toNat (dyD n).toNat (dyY n % 100).toNat (dH n).toNat (dM n).toNat (dS n).toNat (wkN_lt n) (by omega) (by omega) (by omega) (by omega) (by omega) (by omega)
  have e1 : ((dyY n % 100).toNat : Int) = dyY n % 100 := Int.toNat_of_nonneg (by omega)
  have e2 : (((dyM n - 1).toNat : Int)) + 1 = dyM n := by rw [Int.toNat_of_nonneg (by omega)]; omega
  have e3 : ((dyD n).toNat : Int) = dyD n := Int.toNat_of_nonneg (by omega)
  have e4 : ((dH n).toNat : Int) = dH n := Int.toNat_of_nonneg a0
  have e5 : ((dM n).toNat : Int) = dM n := Int.toNat_of_nonneg b0
  have e6 : ((dS n).toNat : Int) = dS n := Int.toNat_of_nonneg c0
  rw [e1, e2, e3, e4, e5, e6, ← wkN_eq n] at hx
  unfold parP elderN
  rw [if_pos hn, (parF_none (k := 0) (by decide) (elder_not1 _ _ _ _ _ _ _ (wkN_lt n))).trans (parF_some (k := 1) (by decide) hx)]
  unfold endP yrP
  simp only [if_pos (show (1 : Nat) = 1 from rfl), if_true]
  rw [lat_back h1 h2, hb, hi]
  simp
/-- Fix of what Write writes is what Print writes. -/
theorem fix_plain (n now : Int) (h : placeB (n / 86400) = true) (hn : placeB (now / 86400) = true) : fixF now (plainN n) = prtB n := by
  unfold fixF
  rw [par_plain n now h hn]
  rfl
theorem fix_elder (n now : Int) (h : placeB (n / 86400) = true) (hn : placeB (now / 86400) = true) (h1 : yrN now - 50 < dyY n) (h2 : dyY n ≤ yrN now + 50) : fixF now (elderN n) = prtB n := by
  unfold fixF
  rw [par_elder n now h hn h1 h2]
  rfl
end Go.Proofs.YtgamekfickheaaaGreat
