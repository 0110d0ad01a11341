/- Framing (layer 23): what is ambiguous isn't taken: the law FramingOne. -/
import Derived.Test.YtkfpioadimkogaaGreatDoorFrc
import Derived.Test.YtkfpioadimkogaaGreatDoorHdd
import Derived.Test.YtkfpioadimkogaaGreatDoorLaw2
import Derived.Deep.DeepCutAuto
import Derived.RegionTactic
import Derived.Deep.RegionHeld3
namespace Go.Proofs.YtkfpioadimkogaaGreatDoor
open Go.RowKit
set_option linter.unusedVariables false
set_option linter.unusedSimpArgs false

theorem hAll_add (l : List Fld) (x y nm : ByteArray) : hAll (l ++ [(x, y)]) nm = hAll l nm ++ (if foldB x nm = true then [y] else []) := by
  unfold hAll
  rw [List.filter_append, List.map_append, List.filter_cons]
  cases h : foldB x nm <;> simp [h]
theorem hAll_wo {nm : ByteArray} {ns : List ByteArray} (h : nm ∈ ns) (l : List Fld) : hAll (hWo l ns) nm = [] := by
  unfold hAll hWo
  rw [List.filter_filter]
  have : (l.filter fun p => foldB p.1 nm && !hHas p.1 ns) = [] := by
    rw [List.filter_eq_nil_iff]
    intro p _
    cases hf : foldB p.1 nm
    · simp
    · have : hHas p.1 ns = true := List.any_eq_true.2 ⟨nm, h, hf⟩
      rw [this]; simp
  rw [this]; rfl
theorem chF_cong {l m : List Fld} (h : hAll l nmTE = hAll m nmTE) : chF l = chF m := by
  unfold chF teC teV hIs
  rw [h]
def vCh : ByteArray := ⟨#[99, 104, 117, 110, 107, 101, 100]⟩
def nmTE2 : ByteArray := ⟨#[116, 114, 97, 110, 115, 102, 101, 114, 45, 101, 110, 99, 111, 100, 105, 110, 103]⟩
def woF (l : List Fld) : List Fld := hWo l [nmTE, nmCL]
def tx3 (n : Int) : ByteArray := ofL (textL n)
def oneF (l : List Fld) (a : Int) : List Fld := woF l ++ [(nmCL, tx3 a)]
def twoF (l : List Fld) (a b : Int) : List Fld := oneF l a ++ [(nmCL2, tx3 b)]
def bothF (l : List Fld) (a : Int) : List Fld := oneF l a ++ [(nmTE2, vCh)]
theorem fo_facts : foldB nmCL nmTE = false ∧ foldB nmCL2 nmTE = false ∧ foldB nmTE2 nmTE = true ∧ foldB nmCL nmCL = true ∧ foldB nmCL2 nmCL = true ∧ foldB nmTE2 nmCL = false := by decide +kernel
theorem dig_tok3 : ∀ n, n < 256 → digV n < 10 → tcharB n = true ∧ n ≠ 44 := by decide +kernel
theorem tx3_list {n : Int} (h : 0 ≤ n) : (tx3 n).data.toList = wdig 10 1 n.toNat := by
  unfold tx3 textL
  rw [if_neg (by omega)]
  simp [ofL]
theorem tx3_dig {n : Int} (h : 0 ≤ n) : ∀ c ∈ (tx3 n).data.toList, tcharB c.toNat = true ∧ c.toNat ≠ 44 := fun c hc => by
  rw [tx3_list h] at hc
  exact dig_tok3 _ (UInt8.toNat_lt c) (wdig_ok 10 1 n.toNat (by omega) (by omega) c hc)
theorem tx3_tok {n : Int} (h : 0 ≤ n) : tokenB (tx3 n) = true := by
  unfold tokenB allB
  rw [Bool.and_eq_true]
  refine ⟨?_, List.all_eq_true.2 fun c hc => (tx3_dig h c hc).1⟩
  rw [tx3_list h]
  have := wdig_ne 10 1 n.toNat (by omega)
  cases hq : wdig 10 1 n.toNat with
  | nil => exact absurd hq this
  | cons => rfl
theorem tx3_parts {n : Int} (h : 0 ≤ n) : lnK (tx3 n) = [tx3 n] := by
  unfold lnK
  rw [cmK_plain (fun c hc e => (tx3_dig h c hc).2 (by rw [e]; rfl))]
  show [trimB (tx3 n)] = _
  rw [(trimB_token (tx3_tok h)).1]
theorem tx3_num {n : Int} (h : 0 ≤ n) (h2 : n ≤ 2147483647) : numV 10 (tx3 n) 2147483647 = n ∧ numE 10 (tx3 n) 2147483647 = 0 := by
  have b := (num_back 10 1 n.toNat 2147483647 (by omega) (by omega) (by omega) (by omega)).1 (by omega)
  have e : textL n = wdig 10 1 n.toNat := by unfold textL; rw [if_neg (by omega)]
  unfold tx3
  rw [e]
  rwa [Int.toNat_of_nonneg h] at b
theorem tx3_le (n : Int) : (tx3 n).size ≤ 21 := by unfold tx3; rw [ofL_size]; exact textL_len n
theorem two_te (l : List Fld) (a b : Int) : hAll (twoF l a b) nmTE = [] := by
  obtain ⟨f1, f2, f3, f4, f5, f6⟩ := fo_facts
  unfold twoF oneF woF
  rw [hAll_add, hAll_add, hAll_wo (by simp), f1, f2]
  rfl
theorem two_cl (l : List Fld) (a b : Int) : hAll (twoF l a b) nmCL = [tx3 a, tx3 b] := by
  obtain ⟨f1, f2, f3, f4, f5, f6⟩ := fo_facts
  unfold twoF oneF woF
  rw [hAll_add, hAll_add, hAll_wo (by simp), f4, f5]
  rfl
theorem both_te (l : List Fld) (a : Int) : hAll (bothF l a) nmTE = [vCh] := by
  obtain ⟨f1, f2, f3, f4, f5, f6⟩ := fo_facts
  unfold bothF oneF woF
  rw [hAll_add, hAll_add, hAll_wo (by simp), f1, f3]
  rfl
theorem both_cl (l : List Fld) (a : Int) : hAll (bothF l a) nmCL = [tx3 a] := by
  obtain ⟨f1, f2, f3, f4, f5, f6⟩ := fo_facts
  unfold bothF oneF woF
  rw [hAll_add, hAll_add, hAll_wo (by simp), f4, f6]
  rfl
theorem two_sd {l : List Fld} {a b mi : Int} (ha : 0 ≤ a) (ha2 : a ≤ 2147483647) (hb : 0 ≤ b) (hb2 : b ≤ 2147483647) (hab : a ≠ b) : sdR (twoF l a b) mi = (0, 0, false, 14) := by
  obtain ⟨n1, n2⟩ := tx3_num ha ha2
  obtain ⟨m1, m2⟩ := tx3_num hb hb2
  have hc : chF (twoF l a b) = (false, 0) := by rw [chF_cong (m := []) (two_te l a b)]; rfl
  have hl : lenF (twoF l a b) = (0, false, 14) := by
    unfold lenF
    rw [two_cl]
    have e : lnV [tx3 a, tx3 b] = [tx3 a, tx3 b] := by unfold lnV; simp [tx3_parts ha, tx3_parts hb]
    rw [e]
    refine lnR_bad (List.prefix_refl _) ?_
    show lnStep (lnStep (some none) (tx3 a)) (tx3 b) = _
    rw [lnS_first n2, n1]
    exact lnS_other (by rw [m1]; exact fun e => hab e.symm)
  unfold sdR
  rw [hc, hl]
  unfold sdF
  rw [if_neg (by simp), if_neg (by simp), if_pos (by simp)]
theorem ch_one : chF [(nmTE, vCh)] = (true, 0) := by decide +kernel
theorem both_sd (l : List Fld) (a mi : Int) : sdR (bothF l a) mi = (0, 0, false, 14) := by
  have hc : chF (bothF l a) = (true, 0) := by
    rw [chF_cong (m := [(nmTE, vCh)]) (by rw [both_te]; decide +kernel)]
    exact ch_one
  unfold sdR
  rw [hc, both_cl]
  unfold sdF
  rw [if_neg (by simp), if_pos rfl, if_pos (.inr (by simp))]
theorem rq_sd {l : List Fld} {mi : Int} (h : sdR l mi = (0, 0, false, 14)) : rqR l mi = (0, 0, 13) ∨ rqR l mi = (0, 0, 14) := by
  unfold rqR
  split
  · exact .inl rfl
  · rw [h]; exact .inr rfl
theorem rs_sd {l : List Fld} {mi st : Int} {m : ByteArray} (h : sdR l mi = (0, 0, false, 14)) : rsR l mi st m = (0, 0, 14) := by
  unfold rsR rsF
  rw [h, if_pos (.inl (by decide))]
theorem wo_few {l : List Fld} (h : hFew l = true) : (woF l).length ≤ 40 ∧ ∀ p ∈ woF l, p.1.size ≤ 1000 ∧ p.2.size ≤ 1000 := by
  have h1 := (hFew_out h).1
  have h2 := (fewF_of h).val
  exact ⟨Nat.le_trans (hWo_len l _) h1, fun p hp => h2 p (List.mem_filter.1 hp).1⟩
theorem one_few {l : List Fld} {a : Int} (h : hFew l = true) : (oneF l a).length ≤ 41 ∧ ∀ p ∈ oneF l a, p.1.size ≤ 1000 ∧ p.2.size ≤ 1000 := by
  obtain ⟨h1, h2⟩ := wo_few h
  unfold oneF
  refine ⟨by rw [List.length_append]; simp; omega, fun p hp => ?_⟩
  rcases List.mem_append.1 hp with hp | hp
  · exact h2 p hp
  · simp at hp; subst hp
    exact ⟨show nmCL.size ≤ 1000 by decide, by have := tx3_le a; show (tx3 a).size ≤ _; omega⟩
theorem two_few {l : List Fld} {a b : Int} (h : hFew l = true) : FewF (twoF l a b) := by
  obtain ⟨h1, h2⟩ := one_few (a := a) h
  unfold twoF
  refine ⟨by rw [List.length_append]; simp; omega, fun p hp => ?_⟩
  rcases List.mem_append.1 hp with hp | hp
  · exact h2 p hp
  · simp at hp; subst hp
    exact ⟨show nmCL2.size ≤ 1000 by decide, by have := tx3_le b; show (tx3 b).size ≤ _; omega⟩
theorem both_few {l : List Fld} {a : Int} (h : hFew l = true) : FewF (bothF l a) := by
  obtain ⟨h1, h2⟩ := one_few (a := a) h
  unfold bothF
  refine ⟨by rw [List.length_append]; simp; omega, fun p hp => ?_⟩
  rcases List.mem_append.1 hp with hp | hp
  · exact h2 p hp
  · simp at hp; subst hp
    exact ⟨show nmTE2.size ≤ 1000 by decide, show vCh.size ≤ 1000 by decide⟩
theorem rds_two (w : World) (x y : ByteArray) : RdS (w.alloc (.cells #[.string x, .string y] 9)) (.slice (some ⟨w.heap.size, 0, none⟩) 2 2) [x, y] :=
  rds_own (l := [x, y]) (World.ownsRow_lit (base := w.heap.size) (e := 9) (size := 1) w #[.string x, .string y] 2 (Nat.le_refl _) (by unfold maxLen; omega) rfl)
/-- Two heads' blocks. -/
structure Bx9 (h b9 b10 : Nat) (c9 c10 : Array Value) (w W : World) : Prop where
  k9 : W.heap[b9]? = some (.cells c9 33 (0, 0))
  k10 : W.heap[b10]? = some (.cells c10 33 (0, 0))
  ne : b9 ≠ b10
  l9 : h ≤ b9
  l10 : h ≤ b10
  bel : Below h w W
theorem Bx9.call {h b9 b10 : Nat} {c9 c10 : Array Value} {w W W' : World} (H : Bx9 h b9 b10 c9 c10 w W) (hb : Below W.heap.size W W') : Bx9 h b9 b10 c9 c10 w W' :=
  ⟨(hb.block b9 (blk_lt H.k9)).trans H.k9, (hb.block b10 (blk_lt H.k10)).trans H.k10, H.ne, H.l9, H.l10, H.bel.trans (hb.mono (by have := blk_lt H.k9; have := H.l9; omega))⟩
theorem Bx9.alloc {h b9 b10 : Nat} {c9 c10 : Array Value} {w W : World} (H : Bx9 h b9 b10 c9 c10 w W) (o : Obj) : Bx9 h b9 b10 c9 c10 w (W.alloc o) :=
  H.call ((Below.refl _ W).alloc (Nat.le_refl _) o)
theorem Bx9.set9 {h b9 b10 : Nat} {c9 c10 : Array Value} {w W : World} (H : Bx9 h b9 b10 c9 c10 w W) (i : Nat) (v : Value) : Bx9 h b9 b10 (c9.setIfInBounds i v) c10 w (W.setCell ⟨b9, i, none⟩ v) :=
  ⟨blk_set H.k9 v, blk_set_other H.k10 (fun e => H.ne e.symm) v, H.ne, H.l9, H.l10, H.bel.setCell H.l9 v⟩
theorem Bx9.set10 {h b9 b10 : Nat} {c9 c10 : Array Value} {w W : World} (H : Bx9 h b9 b10 c9 c10 w W) (i : Nat) (v : Value) : Bx9 h b9 b10 c9 (c10.setIfInBounds i v) w (W.setCell ⟨b10, i, none⟩ v) :=
  ⟨blk_set_other H.k9 H.ne v, blk_set H.k10 v, H.ne, H.l9, H.l10, H.bel.setCell H.l10 v⟩
theorem Bx9.two {h : Nat} {w Y : World} (hb : Below h w Y) (hh : h ≤ Y.heap.size) (c : Array Value) (n1 n2 : Nat) (hn : (n1 = Y.heap.size ∧ n2 = Y.heap.size + 1) ∨ (n1 = Y.heap.size + 1 ∧ n2 = Y.heap.size)) :
    Bx9 h n1 n2 c c w ((Y.alloc (.cells c 33)).alloc (.cells c 33)).drew := by
  have e1 : (Y.alloc (.cells c 33)).heap.size = Y.heap.size + 1 := World.size_alloc _ _
  have k0 := heap_alloc_new Y (.cells c 33)
  have k1 := heap_alloc_new (Y.alloc (.cells c 33)) (.cells c 33)
  rw [e1] at k1
  have k2 := blk_alloc (o2 := .cells c 33) k0
  have hx := ((hb.alloc hh (.cells c 33)).alloc (by rw [e1]; omega) (.cells c 33)).drew
  rcases hn with ⟨rfl, rfl⟩ | ⟨rfl, rfl⟩
  · exact ⟨k2, k1, by omega, hh, by omega, hx⟩
  · exact ⟨k1, k2, by omega, by omega, hh, hx⟩
theorem rdf_set {W : World} {v : Value} {l : List Fld} {b i : Nat} {u : Value} (h : RdF W v l) (hne : ∀ k, v.ownBlock = some k → k ≠ b) : RdF (W.setCell ⟨b, i, none⟩ u) v l :=
  h.stays (by simp [World.setCell]) fun k hk hv => Below.heap_setCell _ _ _ _ (hne k hv)
theorem drewk {X : World} {k : Nat} {o : Obj} (h : X.heap[k]? = some o) : X.drew.heap[k]? = some o := h
theorem cells6 {X : World} {h : Nat} {t : TypeId} {v0 v1 v2 v3 v4 v5 : Value} (H : X.heap[h]? = some (.cells #[v0, v1, v2, v3, v4, v5] t (0, 0))) :
    X.cell? ⟨h, 0, none⟩ = some v0 ∧ X.cell? ⟨h, 1, none⟩ = some v1 ∧ X.cell? ⟨h, 2, none⟩ = some v2 ∧ X.cell? ⟨h, 3, none⟩ = some v3 ∧ X.cell? ⟨h, 4, none⟩ = some v4 ∧ X.cell? ⟨h, 5, none⟩ = some v5 :=
  ⟨blk_cell H rfl, blk_cell H rfl, blk_cell H rfl, blk_cell H rfl, blk_cell H rfl, blk_cell H rfl⟩
set_option maxRecDepth 100000 in
set_option maxHeartbeats 16000000 in
theorem fone_walk (M T R : ByteArray) (mi st a b : Int) (v : Value) (l : List Fld) (w : World) (hv : RdF w v l) (hz : ∀ p ∈ l, FldOk p) (hm : M.size ≤ maxLen) (ht : T.size ≤ maxLen) (hr : R.size ≤ maxLen) :
    Calls Tryz.prog 7 #[.agg #[.string M, .string T, .int .i64 mi, .int .i64 st, .string R, v], .int .i64 a, .int .i64 b] w fun e w' => e = .returned (.bool true) ∧ Below w.heap.size w w' := by
  unfold maxLen at hm ht hr
  have HV := Kp.mk hv
  have HSH := Kp.mk (fun w hv => short_any M T R mi st v l w hv hz hm ht hr)
  obtain ⟨ad, cap, rfl, -, -, -⟩ := hv
  clear hz
  have HB := Kp.mk (Bx1.new w 33 (hdC M T mi st R (.slice ad l.length cap)))
  unfold hdC at HB
  have d0 := blk_cell (i := 0) HB.out.b1 rfl
  have d1 := blk_cell (i := 1) HB.out.b1 rfl
  have d2 := blk_cell (i := 2) HB.out.b1 rfl
  have d3 := blk_cell (i := 3) HB.out.b1 rfl
  have d4 := blk_cell (i := 4) HB.out.b1 rfl
  have d5 := blk_cell (i := 5) HB.out.b1 rfl
  go_enter Tryz.func7, Tryz.ntmps7
  cases hsh : shB M T R l
  · rw [hsh] at HSH
    clear hsh
    go_wp2_with fail
    refine (HSH.out _ (HV.out.below HB.out.bel)).mono ?_
    rintro e w9 ⟨rfl, hb9⟩
    replace HB := Kp.mk (HB.out.call hb9)
    clear hb9 d0 d1 d2 d3 d4 d5
    have d0 := blk_cell (i := 0) HB.out.b1 rfl
    have d1 := blk_cell (i := 1) HB.out.b1 rfl
    have d2 := blk_cell (i := 2) HB.out.b1 rfl
    have d3 := blk_cell (i := 3) HB.out.b1 rfl
    have d4 := blk_cell (i := 4) HB.out.b1 rfl
    have d5 := blk_cell (i := 5) HB.out.b1 rfl
    go_wp2_with fail
    refine (lives23_any _).mono ?_
    rintro e w90 ⟨rfl, hb90⟩
    have HB90 := Kp.mk (HB.out.bel.trans (hb90.mono HB.out.bel.size))
    clear hb90
    go_wp2_with fail
    go_ret
    exact ⟨rfl, HB90.out⟩
  · rw [hsh] at HSH
    have hfl := (shB_out hsh).1
    clear hsh
    by_cases h1 : a < 0
    · go_wp2_with fail
      refine (HSH.out _ (HV.out.below HB.out.bel)).mono ?_
      rintro e w9 ⟨rfl, hb9⟩
      replace HB := Kp.mk (HB.out.call hb9)
      clear hb9 d0 d1 d2 d3 d4 d5
      have d0 := blk_cell (i := 0) HB.out.b1 rfl
      have d1 := blk_cell (i := 1) HB.out.b1 rfl
      have d2 := blk_cell (i := 2) HB.out.b1 rfl
      have d3 := blk_cell (i := 3) HB.out.b1 rfl
      have d4 := blk_cell (i := 4) HB.out.b1 rfl
      have d5 := blk_cell (i := 5) HB.out.b1 rfl
      go_wp2_with fail
      refine (lives23_any _).mono ?_
      rintro e w90 ⟨rfl, hb90⟩
      have HB90 := Kp.mk (HB.out.bel.trans (hb90.mono HB.out.bel.size))
      clear hb90
      go_wp2_with fail
      go_ret
      exact ⟨rfl, HB90.out⟩
    · by_cases h2 : 2147483647 < a
      · go_wp2_with fail
        refine (HSH.out _ (HV.out.below HB.out.bel)).mono ?_
        rintro e w9 ⟨rfl, hb9⟩
        replace HB := Kp.mk (HB.out.call hb9)
        clear hb9 d0 d1 d2 d3 d4 d5
        have d0 := blk_cell (i := 0) HB.out.b1 rfl
        have d1 := blk_cell (i := 1) HB.out.b1 rfl
        have d2 := blk_cell (i := 2) HB.out.b1 rfl
        have d3 := blk_cell (i := 3) HB.out.b1 rfl
        have d4 := blk_cell (i := 4) HB.out.b1 rfl
        have d5 := blk_cell (i := 5) HB.out.b1 rfl
        go_wp2_with fail
        refine (lives23_any _).mono ?_
        rintro e w90 ⟨rfl, hb90⟩
        have HB90 := Kp.mk (HB.out.bel.trans (hb90.mono HB.out.bel.size))
        clear hb90
        go_wp2_with fail
        go_ret
        exact ⟨rfl, HB90.out⟩
      · by_cases h3 : b < 0
        · go_wp2_with fail
          refine (HSH.out _ (HV.out.below HB.out.bel)).mono ?_
          rintro e w9 ⟨rfl, hb9⟩
          replace HB := Kp.mk (HB.out.call hb9)
          clear hb9 d0 d1 d2 d3 d4 d5
          have d0 := blk_cell (i := 0) HB.out.b1 rfl
          have d1 := blk_cell (i := 1) HB.out.b1 rfl
          have d2 := blk_cell (i := 2) HB.out.b1 rfl
          have d3 := blk_cell (i := 3) HB.out.b1 rfl
          have d4 := blk_cell (i := 4) HB.out.b1 rfl
          have d5 := blk_cell (i := 5) HB.out.b1 rfl
          go_wp2_with fail
          refine (lives23_any _).mono ?_
          rintro e w90 ⟨rfl, hb90⟩
          have HB90 := Kp.mk (HB.out.bel.trans (hb90.mono HB.out.bel.size))
          clear hb90
          go_wp2_with fail
          go_ret
          exact ⟨rfl, HB90.out⟩
        · by_cases h4 : 2147483647 < b
          · go_wp2_with fail
            refine (HSH.out _ (HV.out.below HB.out.bel)).mono ?_
            rintro e w9 ⟨rfl, hb9⟩
            replace HB := Kp.mk (HB.out.call hb9)
            clear hb9 d0 d1 d2 d3 d4 d5
            have d0 := blk_cell (i := 0) HB.out.b1 rfl
            have d1 := blk_cell (i := 1) HB.out.b1 rfl
            have d2 := blk_cell (i := 2) HB.out.b1 rfl
            have d3 := blk_cell (i := 3) HB.out.b1 rfl
            have d4 := blk_cell (i := 4) HB.out.b1 rfl
            have d5 := blk_cell (i := 5) HB.out.b1 rfl
            go_wp2_with fail
            refine (lives23_any _).mono ?_
            rintro e w90 ⟨rfl, hb90⟩
            have HB90 := Kp.mk (HB.out.bel.trans (hb90.mono HB.out.bel.size))
            clear hb90
            go_wp2_with fail
            go_ret
            exact ⟨rfl, HB90.out⟩
          · by_cases h5 : a = b
            · subst h5
              go_wp2_with fail
              refine (HSH.out _ (HV.out.below HB.out.bel)).mono ?_
              rintro e w9 ⟨rfl, hb9⟩
              replace HB := Kp.mk (HB.out.call hb9)
              clear hb9 d0 d1 d2 d3 d4 d5
              have d0 := blk_cell (i := 0) HB.out.b1 rfl
              have d1 := blk_cell (i := 1) HB.out.b1 rfl
              have d2 := blk_cell (i := 2) HB.out.b1 rfl
              have d3 := blk_cell (i := 3) HB.out.b1 rfl
              have d4 := blk_cell (i := 4) HB.out.b1 rfl
              have d5 := blk_cell (i := 5) HB.out.b1 rfl
              go_wp2_with fail
              refine (lives23_any _).mono ?_
              rintro e w90 ⟨rfl, hb90⟩
              have HB90 := Kp.mk (HB.out.bel.trans (hb90.mono HB.out.bel.size))
              clear hb90
              go_wp2_with fail
              go_ret
              exact ⟨rfl, HB90.out⟩
            · have h6 : (a == b) = false := beq_eq_false_iff_ne.2 h5
              go_wp2_with fail
              refine (HSH.out _ (HV.out.below HB.out.bel)).mono ?_
              rintro e w9 ⟨rfl, hb9⟩
              replace HB := Kp.mk (HB.out.call hb9)
              clear hb9 d0 d1 d2 d3 d4 d5
              have d0 := blk_cell (i := 0) HB.out.b1 rfl
              have d1 := blk_cell (i := 1) HB.out.b1 rfl
              have d2 := blk_cell (i := 2) HB.out.b1 rfl
              have d3 := blk_cell (i := 3) HB.out.b1 rfl
              have d4 := blk_cell (i := 4) HB.out.b1 rfl
              have d5 := blk_cell (i := 5) HB.out.b1 rfl
              have FL := fewF_of hfl
              have hln := FL.len
              obtain ⟨w1, w2⟩ := wo_few hfl
              obtain ⟨o1, o2⟩ := one_few (a := a) hfl
              have HWO := Kp.mk (fun w u hv hu => hwo_any (.slice ad l.length cap) u l [nmTE, nmCL] w hv hu FL.sm (by intro x hx; simp at hx; rcases hx with rfl | rfl <;> decide) (by omega) (by simp))
              have HTA := Kp.mk (fun w => text_any a w (by omega) (by omega))
              have HTB := Kp.mk (fun w => text_any b w (by omega) (by omega))
              have HW1 := Kp.mk (fun u w hv => hwith_any u (woF l) nmCL (tx3 a) w hv (by omega))
              have HW2 := Kp.mk (fun u w hv => hwith_any u (oneF l a) nmCL2 (tx3 b) w hv (by omega))
              have HW3 := Kp.mk (fun u w hv => hwith_any u (oneF l a) nmTE2 vCh w hv (by omega))
              have s1 := two_sd (l := l) (mi := mi) (show 0 ≤ a by omega) (by omega) (show 0 ≤ b by omega) (by omega) h5
              have s2 := both_sd l a mi
              have HQ1 := Kp.mk (rq_sd s1)
              have HQ2 := Kp.mk (rq_sd s2)
              have HC1 := Kp.mk (fun u w hv => freq_any M T R mi st u (twoF l a b) w hv (two_few hfl))
              have HC2 := Kp.mk (fun u w hv => fres_any M T R vGET mi st u (twoF l a b) w hv (two_few hfl))
              have HC3 := Kp.mk (fun u w hv => freq_any M T R mi st u (bothF l a) w hv (both_few hfl))
              have HC4 := Kp.mk (fun u w hv => fres_any M T R vHEAD mi st u (bothF l a) w hv (both_few hfl))
              rw [rs_sd s1] at HC2
              rw [rs_sd s2] at HC4
              have E0 := Kp.mk (show woF l = hWo l [nmTE, nmCL] from rfl)
              have E1 := Kp.mk (show oneF l a = woF l ++ [(nmCL, tx3 a)] from rfl)
              have E2 := Kp.mk (show twoF l a b = oneF l a ++ [(nmCL2, tx3 b)] from rfl)
              have E3 := Kp.mk (show bothF l a = oneF l a ++ [(nmTE2, vCh)] from rfl)
              unfold RetF at HWO HW1 HW2 HW3
              rw [← E0.out] at HWO
              rw [← E1.out] at HW1
              rw [← E2.out] at HW2
              rw [← E3.out] at HW3
              have HTa := Kp.mk (show ofL (textL a) = tx3 a from rfl)
              have HTb := Kp.mk (show ofL (textL b) = tx3 b from rfl)
              rw [HTa.out] at HTA
              rw [HTb.out] at HTB
              clear E0 E1 E2 E3 HTa HTb s1 s2 FL w2 o2 hfl
              generalize twoF l a b = F2 at *
              generalize bothF l a = F3 at *
              generalize oneF l a = F1 at *
              generalize woF l = F0 at *
              generalize tx3 a = ta at *
              generalize tx3 b = tb at *
              have BS := Kp.mk (HB.out.alloc (.cells #[.string nmTE, .string nmCL] 9))
              have RS := Kp.mk (rds_two w9 nmTE nmCL)
              go_wp2_with fail
              refine (HWO.out _ _ (HV.out.below BS.out.bel) RS.out).mono ?_
              rintro e w10 ⟨u, rfl, ho, hb9⟩
              replace HB := Kp.mk (BS.out.call hb9)
              have R0 := Kp.mk (rdf_own ho)
              obtain ⟨a0, c0, rfl⟩ := own_lenH ho
              clear ho hb9 BS RS d0 d1 d2 d3 d4 d5
              go_wp2_with fail
              refine (HTA.out _).mono ?_
              rintro e w11 ⟨rfl, hb9⟩
              replace HB := Kp.mk (HB.out.call hb9)
              replace R0 := Kp.mk (R0.out.below hb9)
              clear hb9
              go_wp2_with fail
              refine (HW1.out _ _ R0.out).mono ?_
              rintro e w12 ⟨u, rfl, ho, hb9⟩
              replace HB := Kp.mk (HB.out.call hb9)
              have R1 := Kp.mk (rdf_own ho)
              have N1 := Kp.mk (fun k q => (ho.lt k q).2)
              obtain ⟨a1, c1, rfl⟩ := own_lenH ho
              clear ho hb9
              have d0 := blk_cell (i := 0) HB.out.b1 rfl
              have d1 := blk_cell (i := 1) HB.out.b1 rfl
              have d2 := blk_cell (i := 2) HB.out.b1 rfl
              have d3 := blk_cell (i := 3) HB.out.b1 rfl
              have d4 := blk_cell (i := 4) HB.out.b1 rfl
              have d5 := blk_cell (i := 5) HB.out.b1 rfl
              go_upto_region 5 with fail
              go_cut [9, 10] (fun v9 v10 wx => ∃ b9 b10 : Nat, v9 = .pointer (some ⟨b9, 0, none⟩) ∧ v10 = .pointer (some ⟨b10, 0, none⟩) ∧ Bx9 w.heap.size b9 b10 (hdC M T mi st R (.slice ad l.length cap)) (hdC M T mi st R (.slice ad l.length cap)) w wx ∧ RdF wx (.slice a1 F1.length c1) F1 ∧ ∀ k, (Value.slice a1 F1.length c1).ownBlock = some k → k < b9 ∧ k < b10)
              case first =>
                have hlt0 := blk_lt HB.out.b1
                have hbh : w.heap.size ≤ w12.heap.size := HB.out.bel.size
                go_region_held3 (fun w' => w'.cell? ⟨w.heap.size, 0, none⟩ = some (.string M) ∧ w'.cell? ⟨w.heap.size, 1, none⟩ = some (.string T) ∧ w'.cell? ⟨w.heap.size, 2, none⟩ = some (.int .i64 mi) ∧ w'.cell? ⟨w.heap.size, 3, none⟩ = some (.int .i64 st) ∧ w'.cell? ⟨w.heap.size, 4, none⟩ = some (.string R) ∧ w'.cell? ⟨w.heap.size, 5, none⟩ = some (.slice ad l.length cap))
                  ((exact cells6 (by repeat (first | exact HB.out.b1 | refine drewk ?_ | refine blk_set_other ?_ (by first | omega | (simp; omega)) _ | refine blk_alloc ?_))))
                  ((fail))
                all_goals go_wp2_with fail
                all_goals go_meet
                · exact ⟨_, _, rfl, rfl, Bx9.two HB.out.bel hbh _ _ _ (.inl ⟨rfl, rfl⟩), R1.out.below ((((Below.refl w12.heap.size w12).alloc (Nat.le_refl _) _).alloc (by simp) _).drew), fun k q => by have := N1.out k q; omega⟩
                · exact ⟨_, _, rfl, rfl, Bx9.two HB.out.bel hbh _ _ _ (.inr ⟨rfl, rfl⟩), R1.out.below ((((Below.refl w12.heap.size w12).alloc (Nat.le_refl _) _).alloc (by simp) _).drew), fun k q => by have := N1.out k q; omega⟩
              case rest =>
                obtain ⟨b9, b10, rfl, rfl, hx9, hr1, hn1⟩ := hcut
                have XB := Kp.mk hx9
                unfold hdC at XB
                replace R1 := Kp.mk hr1
                replace N1 := Kp.mk hn1
                clear hx9 hr1 hn1 HB R0 d0 d1 d2 d3 d4 d5
                have x0 := blk_cell (i := 0) XB.out.k9 rfl
                have x1 := blk_cell (i := 1) XB.out.k9 rfl
                have x2 := blk_cell (i := 2) XB.out.k9 rfl
                have x3 := blk_cell (i := 3) XB.out.k9 rfl
                have x4 := blk_cell (i := 4) XB.out.k9 rfl
                have x5 := blk_cell (i := 5) XB.out.k9 rfl
                have y0 := blk_cell (i := 0) XB.out.k10 rfl
                have y1 := blk_cell (i := 1) XB.out.k10 rfl
                have y2 := blk_cell (i := 2) XB.out.k10 rfl
                have y3 := blk_cell (i := 3) XB.out.k10 rfl
                have y4 := blk_cell (i := 4) XB.out.k10 rfl
                have y5 := blk_cell (i := 5) XB.out.k10 rfl
                have fx := blk_free (i := 5) XB.out.k9
                have fy := blk_free (i := 5) XB.out.k10
                go_wp2_with fail
                refine (HTB.out _).mono ?_
                rintro e w20 ⟨rfl, hb9⟩
                replace XB := Kp.mk (XB.out.call hb9)
                replace R1 := Kp.mk (R1.out.below hb9)
                clear hb9 x0 x1 x2 x3 x4 x5 y0 y1 y2 y3 y4 y5 fx fy
                have x0 := blk_cell (i := 0) XB.out.k9 rfl
                have x1 := blk_cell (i := 1) XB.out.k9 rfl
                have x2 := blk_cell (i := 2) XB.out.k9 rfl
                have x3 := blk_cell (i := 3) XB.out.k9 rfl
                have x4 := blk_cell (i := 4) XB.out.k9 rfl
                have x5 := blk_cell (i := 5) XB.out.k9 rfl
                have y0 := blk_cell (i := 0) XB.out.k10 rfl
                have y1 := blk_cell (i := 1) XB.out.k10 rfl
                have y2 := blk_cell (i := 2) XB.out.k10 rfl
                have y3 := blk_cell (i := 3) XB.out.k10 rfl
                have y4 := blk_cell (i := 4) XB.out.k10 rfl
                have y5 := blk_cell (i := 5) XB.out.k10 rfl
                have fx := blk_free (i := 5) XB.out.k9
                have fy := blk_free (i := 5) XB.out.k10
                have l9 := blk_lt XB.out.k9
                have l10 := blk_lt XB.out.k10
                go_wp2_with fail
                refine (HW2.out _ _ R1.out).mono ?_
                rintro e w21 ⟨u, rfl, ho, hb9⟩
                replace XB := Kp.mk (XB.out.call hb9)
                replace R1 := Kp.mk (R1.out.below hb9)
                have R2 := Kp.mk (rdf_own ho)
                obtain ⟨a2, c2, rfl⟩ := own_lenH ho
                have N2 := Kp.mk (fun k (q : (Value.slice a2 F2.length c2).ownBlock = some k) => (ho.lt k q).1)
                clear ho hb9 x0 x1 x2 x3 x4 x5 y0 y1 y2 y3 y4 y5 fx fy
                have x0 := blk_cell (i := 0) XB.out.k9 rfl
                have x1 := blk_cell (i := 1) XB.out.k9 rfl
                have x2 := blk_cell (i := 2) XB.out.k9 rfl
                have x3 := blk_cell (i := 3) XB.out.k9 rfl
                have x4 := blk_cell (i := 4) XB.out.k9 rfl
                have x5 := blk_cell (i := 5) XB.out.k9 rfl
                have y0 := blk_cell (i := 0) XB.out.k10 rfl
                have y1 := blk_cell (i := 1) XB.out.k10 rfl
                have y2 := blk_cell (i := 2) XB.out.k10 rfl
                have y3 := blk_cell (i := 3) XB.out.k10 rfl
                have y4 := blk_cell (i := 4) XB.out.k10 rfl
                have y5 := blk_cell (i := 5) XB.out.k10 rfl
                have fx := blk_free (i := 5) XB.out.k9
                have fy := blk_free (i := 5) XB.out.k10
                have XC := Kp.mk (show Bx9 w.heap.size b9 b10 #[.string M, .string T, .int .i64 mi, .int .i64 st, .string R, .slice a2 F2.length c2] #[.string M, .string T, .int .i64 mi, .int .i64 st, .string R, .slice ad l.length cap] w (w21.setCell ⟨b9, 5, none⟩ (.slice a2 F2.length c2)) from XB.out.set9 5 _)
                have R1b := Kp.mk (rdf_set (b := b9) (i := 5) (u := .slice a2 F2.length c2) R1.out (fun k q => by have := N1.out k q; omega))
                have R2b := Kp.mk (rdf_set (b := b9) (i := 5) (u := .slice a2 F2.length c2) R2.out (fun k q => by have := N2.out k q; omega))
                have m9 := blk_lt XC.out.k9
                have m10 := blk_lt XC.out.k10
                go_wp2_with fail
                refine (HW3.out _ _ R1b.out).mono ?_
                rintro e w22 ⟨u, rfl, ho, hb9⟩
                replace XB := Kp.mk (XC.out.call hb9)
                replace R2 := Kp.mk (R2b.out.below hb9)
                have hsz22 := hb9.size
                have R3 := Kp.mk (rdf_own ho)
                obtain ⟨a3, c3, rfl⟩ := own_lenH ho
                have N3 := Kp.mk (fun k (q : (Value.slice a3 F3.length c3).ownBlock = some k) => (ho.lt k q).1)
                have N2b := Kp.mk (fun k (q : (Value.slice a2 F2.length c2).ownBlock = some k) => (N2.out k q))
                clear ho hb9 x0 x1 x2 x3 x4 x5 y0 y1 y2 y3 y4 y5 fx fy XC R1b R2b
                have x0 := blk_cell (i := 0) XB.out.k9 rfl
                have x1 := blk_cell (i := 1) XB.out.k9 rfl
                have x2 := blk_cell (i := 2) XB.out.k9 rfl
                have x3 := blk_cell (i := 3) XB.out.k9 rfl
                have x4 := blk_cell (i := 4) XB.out.k9 rfl
                have x5 := blk_cell (i := 5) XB.out.k9 rfl
                have y0 := blk_cell (i := 0) XB.out.k10 rfl
                have y1 := blk_cell (i := 1) XB.out.k10 rfl
                have y2 := blk_cell (i := 2) XB.out.k10 rfl
                have y3 := blk_cell (i := 3) XB.out.k10 rfl
                have y4 := blk_cell (i := 4) XB.out.k10 rfl
                have y5 := blk_cell (i := 5) XB.out.k10 rfl
                have fx := blk_free (i := 5) XB.out.k9
                have fy := blk_free (i := 5) XB.out.k10
                have XC := Kp.mk (show Bx9 w.heap.size b9 b10 #[.string M, .string T, .int .i64 mi, .int .i64 st, .string R, .slice a2 F2.length c2] #[.string M, .string T, .int .i64 mi, .int .i64 st, .string R, .slice a3 F3.length c3] w (w22.setCell ⟨b10, 5, none⟩ (.slice a3 F3.length c3)) from XB.out.set10 5 _)
                have R2b := Kp.mk (rdf_set (b := b10) (i := 5) (u := .slice a3 F3.length c3) R2.out (fun k q => by have := N2.out k q; omega))
                have R3b := Kp.mk (rdf_set (b := b10) (i := 5) (u := .slice a3 F3.length c3) R3.out (fun k q => by have := N3.out k q; omega))
                have gy5 := y5
                have gfy := fy
                clear x0 x1 x2 x3 x4 x5 y0 y1 y2 y3 y4 y5 fx fy
                have x0 := blk_cell (i := 0) XC.out.k9 rfl
                have x1 := blk_cell (i := 1) XC.out.k9 rfl
                have x2 := blk_cell (i := 2) XC.out.k9 rfl
                have x3 := blk_cell (i := 3) XC.out.k9 rfl
                have x4 := blk_cell (i := 4) XC.out.k9 rfl
                have x5 := blk_cell (i := 5) XC.out.k9 rfl
                have y0 := blk_cell (i := 0) XC.out.k10 rfl
                have y1 := blk_cell (i := 1) XC.out.k10 rfl
                have y2 := blk_cell (i := 2) XC.out.k10 rfl
                have y3 := blk_cell (i := 3) XC.out.k10 rfl
                have y4 := blk_cell (i := 4) XC.out.k10 rfl
                have y5 := blk_cell (i := 5) XC.out.k10 rfl
                have fx := blk_free (i := 5) XC.out.k9
                have fy := blk_free (i := 5) XC.out.k10
                generalize rqR F2 mi = Q1 at *
                generalize rqR F3 mi = Q2 at *
                obtain ⟨q1a, q1b, q1c⟩ := Q1
                obtain ⟨q2a, q2b, q2c⟩ := Q2
                dsimp only at HC1 HC3
                simp only [Prod.mk.injEq] at HQ1 HQ2
                go_wp2_with fail
                refine (HC1.out _ _ R2b.out).mono ?_
                rintro e w31 ⟨rfl, hb9⟩
                replace XC := Kp.mk ((XC.out.call hb9).alloc (.cells #[.int .i64 q1a, .int .i64 q1b] 37))
                replace R2b := Kp.mk ((R2b.out.below hb9).below ((Below.refl _ _).alloc (Nat.le_refl _) (.cells #[.int .i64 q1a, .int .i64 q1b] 37)))
                replace R3b := Kp.mk ((R3b.out.below hb9).below ((Below.refl _ _).alloc (Nat.le_refl _) (.cells #[.int .i64 q1a, .int .i64 q1b] 37)))
                clear hb9 x0 x1 x2 x3 x4 x5 y0 y1 y2 y3 y4 y5 fx fy
                have x0 := blk_cell (i := 0) XC.out.k9 rfl
                have x1 := blk_cell (i := 1) XC.out.k9 rfl
                have x2 := blk_cell (i := 2) XC.out.k9 rfl
                have x3 := blk_cell (i := 3) XC.out.k9 rfl
                have x4 := blk_cell (i := 4) XC.out.k9 rfl
                have x5 := blk_cell (i := 5) XC.out.k9 rfl
                have y0 := blk_cell (i := 0) XC.out.k10 rfl
                have y1 := blk_cell (i := 1) XC.out.k10 rfl
                have y2 := blk_cell (i := 2) XC.out.k10 rfl
                have y3 := blk_cell (i := 3) XC.out.k10 rfl
                have y4 := blk_cell (i := 4) XC.out.k10 rfl
                have y5 := blk_cell (i := 5) XC.out.k10 rfl
                have fx := blk_free (i := 5) XC.out.k9
                have fy := blk_free (i := 5) XC.out.k10
                go_wp2_with fail
                refine (HC2.out _ _ R2b.out).mono ?_
                rintro e w32 ⟨rfl, hb9⟩
                replace XC := Kp.mk ((XC.out.call hb9).alloc (.cells #[.int .i64 0, .int .i64 0] 37))
                replace R3b := Kp.mk ((R3b.out.below hb9).below ((Below.refl _ _).alloc (Nat.le_refl _) (.cells #[.int .i64 0, .int .i64 0] 37)))
                clear hb9 x0 x1 x2 x3 x4 x5 y0 y1 y2 y3 y4 y5 fx fy
                have x0 := blk_cell (i := 0) XC.out.k9 rfl
                have x1 := blk_cell (i := 1) XC.out.k9 rfl
                have x2 := blk_cell (i := 2) XC.out.k9 rfl
                have x3 := blk_cell (i := 3) XC.out.k9 rfl
                have x4 := blk_cell (i := 4) XC.out.k9 rfl
                have x5 := blk_cell (i := 5) XC.out.k9 rfl
                have y0 := blk_cell (i := 0) XC.out.k10 rfl
                have y1 := blk_cell (i := 1) XC.out.k10 rfl
                have y2 := blk_cell (i := 2) XC.out.k10 rfl
                have y3 := blk_cell (i := 3) XC.out.k10 rfl
                have y4 := blk_cell (i := 4) XC.out.k10 rfl
                have y5 := blk_cell (i := 5) XC.out.k10 rfl
                have fx := blk_free (i := 5) XC.out.k9
                have fy := blk_free (i := 5) XC.out.k10
                go_wp2_with fail
                refine (HC3.out _ _ R3b.out).mono ?_
                rintro e w33 ⟨rfl, hb9⟩
                replace XC := Kp.mk ((XC.out.call hb9).alloc (.cells #[.int .i64 q2a, .int .i64 q2b] 37))
                replace R3b := Kp.mk ((R3b.out.below hb9).below ((Below.refl _ _).alloc (Nat.le_refl _) (.cells #[.int .i64 q2a, .int .i64 q2b] 37)))
                clear hb9 x0 x1 x2 x3 x4 x5 y0 y1 y2 y3 y4 y5 fx fy
                have x0 := blk_cell (i := 0) XC.out.k9 rfl
                have x1 := blk_cell (i := 1) XC.out.k9 rfl
                have x2 := blk_cell (i := 2) XC.out.k9 rfl
                have x3 := blk_cell (i := 3) XC.out.k9 rfl
                have x4 := blk_cell (i := 4) XC.out.k9 rfl
                have x5 := blk_cell (i := 5) XC.out.k9 rfl
                have y0 := blk_cell (i := 0) XC.out.k10 rfl
                have y1 := blk_cell (i := 1) XC.out.k10 rfl
                have y2 := blk_cell (i := 2) XC.out.k10 rfl
                have y3 := blk_cell (i := 3) XC.out.k10 rfl
                have y4 := blk_cell (i := 4) XC.out.k10 rfl
                have y5 := blk_cell (i := 5) XC.out.k10 rfl
                have fx := blk_free (i := 5) XC.out.k9
                have fy := blk_free (i := 5) XC.out.k10
                go_wp2_with fail
                refine (HC4.out _ _ R3b.out).mono ?_
                rintro e w34 ⟨rfl, hb9⟩
                replace XC := Kp.mk ((XC.out.call hb9).alloc (.cells #[.int .i64 0, .int .i64 0] 37))
                clear hb9 x0 x1 x2 x3 x4 x5 y0 y1 y2 y3 y4 y5 fx fy
                have x0 := blk_cell (i := 0) XC.out.k9 rfl
                have x1 := blk_cell (i := 1) XC.out.k9 rfl
                have x2 := blk_cell (i := 2) XC.out.k9 rfl
                have x3 := blk_cell (i := 3) XC.out.k9 rfl
                have x4 := blk_cell (i := 4) XC.out.k9 rfl
                have x5 := blk_cell (i := 5) XC.out.k9 rfl
                have y0 := blk_cell (i := 0) XC.out.k10 rfl
                have y1 := blk_cell (i := 1) XC.out.k10 rfl
                have y2 := blk_cell (i := 2) XC.out.k10 rfl
                have y3 := blk_cell (i := 3) XC.out.k10 rfl
                have y4 := blk_cell (i := 4) XC.out.k10 rfl
                have y5 := blk_cell (i := 5) XC.out.k10 rfl
                have fx := blk_free (i := 5) XC.out.k9
                have fy := blk_free (i := 5) XC.out.k10
                rcases HQ1.out with ⟨-, -, rfl⟩ | ⟨-, -, rfl⟩
                all_goals
                  rcases HQ2.out with ⟨-, -, rfl⟩ | ⟨-, -, rfl⟩
                all_goals
                  go_wp2_with fail
                  refine (lives23_any _).mono ?_
                  rintro e w90 ⟨rfl, hb90⟩
                  have HB90 := Kp.mk (XC.out.bel.trans (hb90.mono XC.out.bel.size))
                  clear hb90
                  go_wp2_with fail
                  go_ret
                  exact ⟨rfl, HB90.out⟩
theorem fone_arg (v0 v1 v2 : Value) (w : World) (h0 : Arg Tryz.prog w 33 v0) (h1 : Arg Tryz.prog w 3 v1) (h2 : Arg Tryz.prog w 3 v2) :
    Calls Tryz.prog 7 #[v0, v1, v2] w fun e w' => e = .returned (.bool true) ∧ Below w.heap.size w w' := by
  obtain ⟨m, t, mi, st, r, u, l, rfl, hv, hz, hm, ht, hr, -, -, -⟩ := head_arg23 v0 w h0
  obtain ⟨a, rfl, ha⟩ := h1.int Tryz.underlying3
  obtain ⟨b, rfl, hb⟩ := h2.int Tryz.underlying3
  exact fone_walk m t r mi st a b u l w hv hz hm ht hr
end Go.Proofs.YtkfpioadimkogaaGreatDoor
