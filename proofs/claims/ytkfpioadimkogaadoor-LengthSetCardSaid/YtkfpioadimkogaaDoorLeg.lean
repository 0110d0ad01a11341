/- Lengths (layer 18): what is set is told: the law LengthSet. -/
import Derived.Test.YtkfpioadimkogaaDoorLef
namespace Go.Proofs.YtkfpioadimkogaaDoor
open Go.RowKit
set_option linter.unusedVariables false
set_option linter.unusedSimpArgs false

theorem dig_tok : ∀ n, n < 256 → digV n < 10 → tcharB n = true ∧ n ≠ 44 := by decide +kernel
theorem txN_list {n : Int} (h : 0 ≤ n) : (txN n).data.toList = wdig 10 1 n.toNat := by
  unfold txN textL
  rw [if_neg (by omega)]
  simp [ofL]
theorem txN_dig {n : Int} (h : 0 ≤ n) : ∀ c ∈ (txN n).data.toList, tcharB c.toNat = true ∧ c.toNat ≠ 44 := fun c hc => by
  rw [txN_list h] at hc
  exact dig_tok _ (UInt8.toNat_lt c) (wdig_ok 10 1 n.toNat (by omega) (by omega) c hc)
theorem txN_tok {n : Int} (h : 0 ≤ n) : tokenB (txN n) = true := by
  unfold tokenB allB
  rw [Bool.and_eq_true]
  refine ⟨?_, List.all_eq_true.2 fun c hc => (txN_dig h c hc).1⟩
  rw [txN_list h]
  have := wdig_ne 10 1 n.toNat (by omega)
  cases hq : wdig 10 1 n.toNat with
  | nil => exact absurd hq this
  | cons => rfl
theorem txN_parts {n : Int} (h : 0 ≤ n) : lnK (txN n) = [txN n] := by
  unfold lnK
  rw [cmK_plain (fun c hc e => (txN_dig h c hc).2 (by rw [e]; rfl))]
  show [trimB (txN n)] = _
  rw [(trimB_token (txN_tok h)).1]
theorem txN_num {n : Int} (h : 0 ≤ n) (h2 : n ≤ 2147483647) : numV 10 (txN n) 2147483647 = n ∧ numE 10 (txN n) 2147483647 = 0 := by
  have b := (num_back 10 1 n.toNat 2147483647 (by omega) (by omega) (by omega) (by omega)).1 (by omega)
  have e : textL n = wdig 10 1 n.toNat := by unfold textL; rw [if_neg (by omega)]
  unfold txN
  rw [e]
  rwa [Int.toNat_of_nonneg h] at b
theorem hWo_ownN (nm : ByteArray) (l : List Fld) : hAll (hWo l [nm]) nm = [] := by
  unfold hAll hWo
  rw [List.filter_filter]
  have : (l.filter fun p => foldB p.1 nm && !hHas p.1 [nm]) = [] := by
    rw [List.filter_eq_nil_iff]
    intro p _
    have e : hHas p.1 [nm] = foldB p.1 nm := by unfold hHas; simp
    rw [e]
    cases foldB p.1 nm <;> simp
  rw [this]; rfl
theorem cl_self : foldB nmCL nmCL = true := by decide +kernel
theorem stL_all (l : List Fld) (n : Int) : hAll (stL l n) nmCL = [txN n] := by
  have h1 := hWo_ownN nmCL l
  unfold stL
  unfold hAll at *
  rw [List.filter_append, List.map_append, h1, List.filter_cons, cl_self]
  rfl
theorem stL_two (l : List Fld) (a b : Int) : hAll (stL l a ++ stL [] b) nmCL = [txN a, txN b] := by
  have h1 := stL_all l a
  have h2 := stL_all [] b
  unfold hAll at *
  rw [List.filter_append, List.map_append, h1, h2]
  rfl
theorem stL_one {l : List Fld} {a : Int} (h : 0 ≤ a) (h2 : a ≤ 2147483647) : lenF (stL l a) = (a, true, 0) := by
  obtain ⟨n1, n2⟩ := txN_num h h2
  unfold lenF
  rw [stL_all]
  have e : lnV [txN a] = [txN a] := by unfold lnV; simp [txN_parts h]
  rw [e]
  have g : lnF [txN a] = some (some a) := by
    show lnStep (some none) (txN a) = _
    rw [lnS_first n2, n1]
  rw [lnR_good g]; rfl
theorem stL_both {l : List Fld} {a b : Int} (ha : 0 ≤ a) (ha2 : a ≤ 2147483647) (hb : 0 ≤ b) (hb2 : b ≤ 2147483647) : lenF (stL l a ++ stL [] b) = if a = b then (a, true, 0) else (0, false, 14) := by
  obtain ⟨n1, n2⟩ := txN_num ha ha2
  obtain ⟨m1, m2⟩ := txN_num hb hb2
  unfold lenF
  rw [stL_two]
  have e : lnV [txN a, txN b] = [txN a, txN b] := by unfold lnV; simp [txN_parts ha, txN_parts hb]
  rw [e]
  have g0 : lnF [txN a, txN b] = lnStep (some (some a)) (txN b) := by
    show lnStep (lnStep (some none) (txN a)) (txN b) = _
    rw [lnS_first n2, n1]
  split
  · rename_i hab
    rw [lnS_same m2 (by rw [m1, hab])] at g0
    rw [lnR_good g0]; rfl
  · rename_i hab
    rw [lnS_other (by rw [m1]; exact fun e => hab e.symm)] at g0
    exact lnR_bad (List.prefix_refl _) g0
set_option maxRecDepth 100000 in
set_option maxHeartbeats 4000000 in
theorem lenset_walk (v : Value) (l : List Fld) (a b : Int) (w : World) (hv : RdF w v l) (hz : ∀ p ∈ l, FldOk p) :
    Calls Tryd.prog 5 #[v, .int .i64 a, .int .i64 b] w fun e w' => e = .returned (.bool true) ∧ Below w.heap.size w w' := by
  have HV := Kp.mk hv
  have HF1 := Kp.mk (few10_any v l w hv hz)
  clear hz
  obtain ⟨ad, cap, rfl, -, -, -⟩ := hv
  have live : ∀ W : World, Below w.heap.size w W → Calls Tryd.prog 19 #[] W fun e w' => e = .returned (.bool true) ∧ Below w.heap.size w w' := fun W hW =>
    (lives18_any W).mono fun e w' ⟨h1, h2⟩ => ⟨h1, hW.trans (h2.mono hW.size)⟩
  have LV := Kp.mk live
  clear live
  by_cases hbad : a < 0 ∨ 2147483647 < a ∨ b < 0 ∨ 2147483647 < b
  · go_enter Tryd.func5, Tryd.ntmps5
    cases hfl : hFew l
    all_goals
      rw [hfl] at HF1
      clear hfl
    · go_wp2_with fail
      refine HF1.out.mono ?_
      rintro e w1 ⟨rfl, hb⟩
      have HB1 := Kp.mk hb
      clear hb
      go_wp2_with fail
      refine (LV.out _ HB1.out).mono ?_
      rintro e w90 ⟨rfl, hb90⟩
      have HB90 := Kp.mk hb90
      clear hb90
      go_wp2_with fail
      go_ret
      exact ⟨rfl, HB90.out⟩
    · by_cases h1 : a < 0
      · go_wp2_with fail
        refine HF1.out.mono ?_
        rintro e w1 ⟨rfl, hb⟩
        have HB1 := Kp.mk hb
        clear hb
        go_wp2_with fail
        refine (LV.out _ HB1.out).mono ?_
        rintro e w90 ⟨rfl, hb90⟩
        have HB90 := Kp.mk hb90
        clear hb90
        go_wp2_with fail
        go_ret
        exact ⟨rfl, HB90.out⟩
      · by_cases h2 : 2147483647 < a
        · go_wp2_with fail
          refine HF1.out.mono ?_
          rintro e w1 ⟨rfl, hb⟩
          have HB1 := Kp.mk hb
          clear hb
          go_wp2_with fail
          refine (LV.out _ HB1.out).mono ?_
          rintro e w90 ⟨rfl, hb90⟩
          have HB90 := Kp.mk hb90
          clear hb90
          go_wp2_with fail
          go_ret
          exact ⟨rfl, HB90.out⟩
        · by_cases h3 : b < 0
          · go_wp2_with fail
            refine HF1.out.mono ?_
            rintro e w1 ⟨rfl, hb⟩
            have HB1 := Kp.mk hb
            clear hb
            go_wp2_with fail
            refine (LV.out _ HB1.out).mono ?_
            rintro e w90 ⟨rfl, hb90⟩
            have HB90 := Kp.mk hb90
            clear hb90
            go_wp2_with fail
            go_ret
            exact ⟨rfl, HB90.out⟩
          · have h4 : 2147483647 < b := by omega
            go_wp2_with fail
            refine HF1.out.mono ?_
            rintro e w1 ⟨rfl, hb⟩
            have HB1 := Kp.mk hb
            clear hb
            go_wp2_with fail
            refine (LV.out _ HB1.out).mono ?_
            rintro e w90 ⟨rfl, hb90⟩
            have HB90 := Kp.mk hb90
            clear hb90
            go_wp2_with fail
            go_ret
            exact ⟨rfl, HB90.out⟩
  · have i1 : ¬ a < 0 := by omega
    have i2 : ¬ 2147483647 < a := by omega
    have i3 : ¬ b < 0 := by omega
    have i4 : ¬ 2147483647 < b := by omega
    clear hbad
    go_enter Tryd.func5, Tryd.ntmps5
    cases hfl : hFew l
    · rw [hfl] at HF1
      clear hfl
      go_wp2_with fail
      refine HF1.out.mono ?_
      rintro e w1 ⟨rfl, hb⟩
      have HB1 := Kp.mk hb
      clear hb
      go_wp2_with fail
      refine (LV.out _ HB1.out).mono ?_
      rintro e w90 ⟨rfl, hb90⟩
      have HB90 := Kp.mk hb90
      clear hb90
      go_wp2_with fail
      go_ret
      exact ⟨rfl, HB90.out⟩
    · rw [hfl] at HF1
      have FW := fewF_of hfl
      have hln := FW.len
      have hsl := stL_len l a
      have hsb := stL_len [] b
      have HC := Kp.mk (fun w hv => lset_any (.slice ad l.length cap) l a w hv FW.sm (by omega) (by omega) (by omega))
      have HC2 := Kp.mk (fun w => lset_any (.slice none 0 0) [] b w (RdL.nil (by unfold maxLen; omega)) (by simp) (by simp) (by omega) (by omega))
      have HA := Kp.mk (fun v w hv => lenof_any v (stL l a) w hv (stL_sm a FW.sm) (by omega))
      have HA2 := Kp.mk (fun v w hv => lenof_any v (stL l a ++ stL [] b) w hv (fun p hp => (List.mem_append.1 hp).elim (stL_sm a FW.sm p) (stL_sm b (by simp) p)) (by rw [List.length_append]; simp at hsb; omega))
      unfold RetF at HC HC2
      unfold RetLn at HA HA2
      rw [stL_one (by omega) (by omega)] at HA
      rw [stL_both (by omega) (by omega) (by omega) (by omega)] at HA2
      simp only [List.length_nil, Nat.zero_add] at hsb
      generalize stL l a = S at *
      generalize stL [] b = U at *
      clear hfl FW
      go_wp2_with fail
      refine HF1.out.mono ?_
      rintro e w1 ⟨rfl, hb⟩
      have B1 := Kp.mk hb
      clear hb
      go_wp2_with fail
      refine (HC.out _ (HV.out.below B1.out)).mono ?_
      rintro e w2 ⟨u, rfl, ho, hb⟩
      have B2 := Kp.mk (B1.out.trans (hb.mono B1.out.size))
      have R2 := Kp.mk (rdf_own ho)
      obtain ⟨a2, c2, rfl⟩ := own_lenH ho
      clear ho hb
      go_wp2_with fail
      refine (HA.out _ _ R2.out).mono ?_
      rintro e w3 ⟨rfl, hb⟩
      have B3 := Kp.mk (B2.out.trans (hb.mono B2.out.size))
      replace R2 := Kp.mk (R2.out.below hb)
      clear hb
      have HO4 := Kp.mk (World.ownsRow_lit (base := w3.heap.size) (e := 59) (size := 2) w3 #[] 0 (Nat.le_refl _) (by unfold maxLen; omega) rfl)
      have BL4 := Kp.mk ((Below.refl w3.heap.size w3).alloc (Nat.le_refl _) (.cells #[] 59))
      have R4 := Kp.mk (R2.out.below BL4.out)
      have hs4 : w3.heap.size ≤ (w3.alloc (.cells #[] 59)).heap.size := BL4.out.size
      have len1 : (0 + S.length) * 32 ≤ 140737488355328 := by omega
      have len2 : 0 + S.length ≤ maxLen := by unfold maxLen; omega
      have len3 : (S.length + U.length) * 32 ≤ 140737488355328 := by omega
      have len4 : S.length + U.length ≤ maxLen := by unfold maxLen; omega
      go_wp2_with (at_builtin; refine app_flds rfl _ _ _ _ rfl Tryd.underlying22 _ Tryd.infoFH rfl w3.heap.size _ 0 _ rfl HO4.out _ rfl S R4.out len1 len2 hs4 ?_; intro v5 w5 h1 h2; rw [Nat.zero_add] at h1; have B5 := Kp.mk (BL4.out.grown h2 hs4 fun k hk => (HO4.out.lt k hk).1); have O5 := Kp.mk h1; obtain ⟨a5, c5, rfl⟩ := own_lenH h1; clear h1 h2)
      refine (HC2.out _).mono ?_
      rintro e w6 ⟨u, rfl, ho, hb⟩
      have B6 := Kp.mk (B5.out.trans (hb.mono B5.out.size))
      have R6 := Kp.mk (rdf_own ho)
      have O6 := Kp.mk (own_bel O5.out hb)
      obtain ⟨a6, c6, rfl⟩ := own_lenH ho
      have hs6 := B6.out.size
      clear ho hb
      go_wp2_with (at_builtin; refine app_flds rfl _ _ _ _ rfl Tryd.underlying22 _ Tryd.infoFH rfl w3.heap.size _ S.length _ rfl O6.out _ rfl U R6.out len3 len4 hs6 ?_; intro v7 w7 h1 h2; have B7 := Kp.mk (B6.out.grown h2 hs6 fun k hk => (O6.out.lt k hk).1); have R7 := Kp.mk (rdf_own (l := S ++ U) (by rw [List.length_append, show fvH (S ++ U) = fvH S ++ fvH U from List.flatMap_append]; exact h1)); obtain ⟨a7, c7, rfl⟩ := own_lenH h1; clear h1 h2)
      rw [List.nil_append] at *
      refine (HA2.out _ _ (by have q := R7.out; exact q)).mono ?_
      rintro e w8 ⟨rfl, hb⟩
      have B8 := Kp.mk (B3.out.trans ((B7.out.trans (hb.mono B7.out.size)).mono B3.out.size))
      clear hb
      by_cases hab : a = b
      · subst hab
        simp only [if_true]
        go_wp2_with fail
        refine (LV.out _ B8.out).mono ?_
        rintro e w90 ⟨rfl, hb90⟩
        have HB90 := Kp.mk hb90
        clear hb90
        go_wp2_with fail
        go_ret
        exact ⟨rfl, HB90.out⟩
      · rw [if_neg hab]
        have hab2 : (a == b) = false := beq_eq_false_iff_ne.2 hab
        go_wp2_with fail
        refine (LV.out _ B8.out).mono ?_
        rintro e w90 ⟨rfl, hb90⟩
        have HB90 := Kp.mk hb90
        clear hb90
        go_wp2_with fail
        go_ret
        exact ⟨rfl, HB90.out⟩
theorem lenset_arg (v0 v1 v2 : Value) (w : World) (h0 : Arg Tryd.prog w 22 v0) (h1 : Arg Tryd.prog w 3 v1) (h2 : Arg Tryd.prog w 3 v2) :
    Calls Tryd.prog 5 #[v0, v1, v2] w fun e w' => e = .returned (.bool true) ∧ Below w.heap.size w w' := by
  obtain ⟨l, hv, hz⟩ := flds_arg18 v0 w h0
  obtain ⟨a, rfl, ha⟩ := h1.int Tryd.underlying3
  obtain ⟨b, rfl, hb⟩ := h2.int Tryd.underlying3
  exact lenset_walk v0 l a b w hv hz
end Go.Proofs.YtkfpioadimkogaaDoor
