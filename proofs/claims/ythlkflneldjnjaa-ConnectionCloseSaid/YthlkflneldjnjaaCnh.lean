/- Connections (layer 17): the document's example; the laws ConnectionWords, ConnectionAlive. -/
import Derived.Test.YthlkflneldjnjaaCne
import Derived.Test.YthlkflneldjnjaaCng
namespace Go.Proofs.Ythlkflneldjnjaa
open Go.RowKit
set_option linter.unusedVariables false
set_option linter.unusedSimpArgs false

def exK : List Fld := [(⟨#[67, 111, 110, 110, 101, 99, 116, 105, 111, 110]⟩, ⟨#[75, 101, 101, 112, 45, 65, 108, 105, 118, 101]⟩), (⟨#[75, 101, 101, 112, 45, 65, 108, 105, 118, 101]⟩, ⟨#[116, 105, 109, 101, 111, 117, 116, 61, 53, 44, 32, 109, 97, 120, 61, 49, 48]⟩)]
theorem exK_few : FewF exK := ⟨by decide, by intro p hp; simp [exK] at hp; rcases hp with rfl | rfl <;> exact ⟨by decide, by decide⟩⟩
theorem nilF : FewF [] := ⟨by decide, by simp⟩
theorem exK_al : alR exK = some (5, 10) := by decide +kernel
theorem exK_per : perB 0 (conV exK) = true := by decide +kernel
theorem nil_per : perB 0 (conV []) = false ∧ perB 1 (conV []) = true := by decide +kernel
theorem exK_has : inW (lowB ⟨#[75, 69, 69, 80, 45, 65, 76, 73, 86, 69]⟩) (conW (conV exK)) = true := by decide +kernel
set_option maxRecDepth 100000 in
set_option maxHeartbeats 1000000 in
theorem lives17_any (w : World) : Calls Try.prog 14 #[] w fun e w' => e = .returned (.bool true) ∧ Below w.heap.size w w' := by
  have HB0 := Kp.mk ((Below.refl w.heap.size w).alloc (Nat.le_refl _) (.cells (fvH exK).toArray 42))
  have R3 := Kp.mk (rdf_own (l := exK) (World.ownsRow_lit (base := w.heap.size) (e := 42) (size := 2) w (fvH exK).toArray 2 (Nat.le_refl _) (by unfold maxLen; omega) rfl))
  have HAL := Kp.mk exK_al
  have HPE := Kp.mk exK_per
  have HNP := Kp.mk nil_per
  have HHA := Kp.mk exK_has
  go_enter Try.func14, Try.ntmps14
  go_wp2_with fail
  refine (calive_any _ exK _ R3.out exK_few).mono ?_
  rw [HAL.out]
  rintro e w1 ⟨rfl, hb1⟩
  unfold alT
  have HB1 := Kp.mk (HB0.out.trans (hb1.mono HB0.out.size))
  have R4 := Kp.mk (R3.out.below hb1)
  have HBX := Kp.mk (show Below w1.heap.size w1 (w1.alloc (.cells #[.int .i64 5, .int .i64 10] 34)) from (Below.refl _ _).alloc (Nat.le_refl _) _)
  have HKX := Kp.mk (heap_alloc_new w1 (.cells #[.int .i64 5, .int .i64 10] 34))
  have R5 := Kp.mk (R4.out.below HBX.out)
  have HBY := Kp.mk (HB1.out.trans (HBX.out.mono HB1.out.size))
  clear hb1
  go_wp2_with fail
  refine (cpers_any 0 _ exK _ R5.out exK_few).mono ?_
  rw [HPE.out]
  rintro e w2 ⟨rfl, hb2⟩
  have HB2 := Kp.mk (HBY.out.trans (hb2.mono HBY.out.size))
  have HK2 := Kp.mk ((hb2.block w1.heap.size (blk_lt HKX.out)).trans HKX.out)
  have R6 := Kp.mk (R5.out.below hb2)
  clear hb2
  go_wp2_with fail
  refine (cpers_any 0 _ [] _ (RdL.nil (by unfold maxLen; omega)) nilF).mono ?_
  rw [HNP.out.1]
  rintro e w3 ⟨rfl, hb3⟩
  have HB3 := Kp.mk (HB2.out.trans (hb3.mono HB2.out.size))
  have HK3 := Kp.mk ((hb3.block w1.heap.size (blk_lt HK2.out)).trans HK2.out)
  have R7 := Kp.mk (R6.out.below hb3)
  clear hb3
  go_wp2_with fail
  refine (cpers_any 1 _ [] _ (RdL.nil (by unfold maxLen; omega)) nilF).mono ?_
  rw [HNP.out.2]
  rintro e w4 ⟨rfl, hb4⟩
  have HB4 := Kp.mk (HB3.out.trans (hb4.mono HB3.out.size))
  have HK4 := Kp.mk ((hb4.block w1.heap.size (blk_lt HK3.out)).trans HK3.out)
  have R8 := Kp.mk (R7.out.below hb4)
  have c0 := blk_cell (i := 0) HK4.out rfl
  have c1 := blk_cell (i := 1) HK4.out rfl
  clear hb4
  go_wp2_with fail
  refine (chas_any _ exK _ _ R8.out exK_few (by decide)).mono ?_
  rw [HHA.out]
  rintro e w5 ⟨rfl, hb5⟩
  have HB5 := Kp.mk (HB4.out.trans (hb5.mono HB4.out.size))
  clear hb5
  go_wp2_with fail
  go_ret
  exact ⟨rfl, HB5.out⟩
theorem sameL_c {α : Type} [DecidableEq α] (l : List α) : sameL l l = true := decide_eq_true rfl
theorem er_same (r : Int) : (r == r) = true := by simp
set_option maxRecDepth 100000 in
set_option maxHeartbeats 1500000 in
theorem cwords_walk (vl : Value) (l : List Fld) (x : ByteArray) (m : Int) (w : World) (h1 : RdF w vl l) (z1 : ∀ p ∈ l, FldOk p) (hx : x.size ≤ maxLen) :
    Calls Try.prog 3 #[vl, .string x, .int .i64 m] w fun e w' => e = .returned (.bool true) ∧ Below w.heap.size w w' := by
  have H1 := Kp.mk h1
  have f1 := few10_any vl l w h1 z1
  unfold maxLen at hx
  cases hfl : hFew l
  · rw [hfl] at f1
    clear h1 z1
    go_enter Try.func3, Try.ntmps3
    go_wp2_with fail
    refine f1.mono ?_
    rintro e w1 ⟨rfl, hb1⟩
    have HB1 := Kp.mk hb1
    clear hb1
    go_wp2_with fail
    refine (lives17_any _).mono ?_
    rintro e w9 ⟨rfl, hb9⟩
    have HB9 := Kp.mk (HB1.out.trans (hb9.mono HB1.out.size))
    clear hb9
    go_wp2_with fail
    go_ret
    exact ⟨rfl, HB9.out⟩
  · rw [hfl] at f1
    have HF := Kp.mk (fewF_of hfl)
    clear z1 h1
    go_enter Try.func3, Try.ntmps3
    go_wp2_with fail
    refine f1.mono ?_
    rintro e w1 ⟨rfl, hb1⟩
    have HB1 := Kp.mk hb1
    clear hb1 f1
    by_cases hq : x.size ≤ 100
    · have q1 : ¬ (100 : Int) < (x.size : Int) := by omega
      have hvz : (conV l).size ≤ 50100 := HF.out.comb nmCon
      have hwl := conW_len (conV l)
      go_wp2_with fail
      refine (words_any vl l _ (H1.out.below HB1.out) HF.out).mono ?_
      rintro e w2 ⟨u, rfl, ho, hb2⟩
      have HB2 := Kp.mk (HB1.out.trans (hb2.mono HB1.out.size))
      have RA := Kp.mk (rds_own ho)
      obtain ⟨a, c, rfl⟩ := own_lenH ho
      clear ho hb2
      go_wp2_with fail
      refine (rwords_any vl l _ (H1.out.below HB2.out) HF.out).mono ?_
      rintro e w3 ⟨u, rfl, ho, hb3⟩
      have HB3 := Kp.mk (HB2.out.trans (hb3.mono HB2.out.size))
      have RA3 := Kp.mk (RA.out.below hb3)
      have RB := Kp.mk (rds_own ho)
      obtain ⟨a2, c2, rfl⟩ := own_lenH ho
      clear ho hb3
      have h9 := er_same (conE (conV l))
      go_wp2_with fail
      refine (rssame_any _ _ (conW (conV l)) (conW (conV l)) _ RA3.out RB.out (by omega) (by omega)).mono ?_
      rw [sameL_c]
      rintro e w4 ⟨rfl, hb4⟩
      have HB4 := Kp.mk (HB3.out.trans (hb4.mono HB3.out.size))
      clear hb4
      go_wp2_with fail
      refine (chas_any vl l x _ (H1.out.below HB4.out) HF.out (by omega)).mono ?_
      rintro e w5 ⟨rfl, hb5⟩
      have HB5 := Kp.mk (HB4.out.trans (hb5.mono HB4.out.size))
      clear hb5
      go_wp2_with fail
      refine (rchas_any vl l x _ (H1.out.below HB5.out) HF.out (by omega)).mono ?_
      rintro e w6 ⟨rfl, hb6⟩
      have HB6 := Kp.mk (HB5.out.trans (hb6.mono HB5.out.size))
      clear hb6
      generalize inW (lowB x) (conW (conV l)) = ib at *
      have h8 : (ib == ib) = true := by cases ib <;> rfl
      go_wp2_with fail
      refine (cpers_any m vl l _ (H1.out.below HB6.out) HF.out).mono ?_
      rintro e w7 ⟨rfl, hb7⟩
      have HB7 := Kp.mk (HB6.out.trans (hb7.mono HB6.out.size))
      clear hb7
      go_wp2_with fail
      refine (rcpers_any m vl l _ (H1.out.below HB7.out) HF.out).mono ?_
      rintro e w8 ⟨rfl, hb8⟩
      have HB8 := Kp.mk (HB7.out.trans (hb8.mono HB7.out.size))
      clear hb8
      generalize perB m (conV l) = pb at *
      have h7 : (pb == pb) = true := by cases pb <;> rfl
      go_wp2_with fail
      refine (lives17_any _).mono ?_
      rintro e w9 ⟨rfl, hb9⟩
      have HB9 := Kp.mk (HB8.out.trans (hb9.mono HB8.out.size))
      clear hb9
      go_wp2_with fail
      go_ret
      exact ⟨rfl, HB9.out⟩
    · have q1 : (100 : Int) < (x.size : Int) := by omega
      go_wp2_with fail
      refine (lives17_any _).mono ?_
      rintro e w9 ⟨rfl, hb9⟩
      have HB9 := Kp.mk (HB1.out.trans (hb9.mono HB1.out.size))
      clear hb9
      go_wp2_with fail
      go_ret
      exact ⟨rfl, HB9.out⟩
theorem hlist_argC (v : Value) (w : World) (h : Arg Try.prog w 22 v) : ∃ l, RdF w v l ∧ ∀ p ∈ l, FldOk p :=
  h.list (f := fldC) (Q := FldOk) Try.underlying22 Try.fcellsFld (by omega) fun E hE =>
    fld_of Try.underlying42 Try.underlying9 Try.fcellsFld Try.fcellsFs ⟨_, rfl, rfl, rfl⟩ ⟨_, rfl, rfl, rfl⟩ hE
theorem cwords_arg (v0 v1 v2 : Value) (w : World) (h0 : Arg Try.prog w 22 v0) (h1 : Arg Try.prog w 9 v1) (h2 : Arg Try.prog w 3 v2) :
    Calls Try.prog 3 #[v0, v1, v2] w fun e w' => e = .returned (.bool true) ∧ Below w.heap.size w w' := by
  obtain ⟨l, hv, hz⟩ := hlist_argC v0 w h0
  obtain ⟨x, rfl, hx⟩ := h1.str Try.underlying9
  obtain ⟨m, rfl, _⟩ := h2.int Try.underlying3
  exact cwords_walk v0 l x m w hv hz hx
def alA (r : Option (Int × Int)) : Int × Int := r.getD (0, 0)
theorem alT_eq (r : Option (Int × Int)) : alT r = .tuple #[.agg #[.int .i64 (alA r).1, .int .i64 (alA r).2], .bool r.isSome] := by cases r <;> rfl
set_option maxRecDepth 100000 in
set_option maxHeartbeats 1500000 in
theorem calv_walk (vl : Value) (l : List Fld) (w : World) (h1 : RdF w vl l) (z1 : ∀ p ∈ l, FldOk p) :
    Calls Try.prog 4 #[vl] w fun e w' => e = .returned (.bool true) ∧ Below w.heap.size w w' := by
  have H1 := Kp.mk h1
  have f1 := few10_any vl l w h1 z1
  cases hfl : hFew l
  · rw [hfl] at f1
    clear h1 z1
    go_enter Try.func4, Try.ntmps4
    go_wp2_with fail
    refine f1.mono ?_
    rintro e w1 ⟨rfl, hb1⟩
    have HB1 := Kp.mk hb1
    clear hb1
    go_wp2_with fail
    refine (lives17_any _).mono ?_
    rintro e w9 ⟨rfl, hb9⟩
    have HB9 := Kp.mk (HB1.out.trans (hb9.mono HB1.out.size))
    clear hb9
    go_wp2_with fail
    go_ret
    exact ⟨rfl, HB9.out⟩
  · rw [hfl] at f1
    have HF := Kp.mk (fewF_of hfl)
    clear z1 h1
    go_enter Try.func4, Try.ntmps4
    go_wp2_with fail
    refine f1.mono ?_
    rintro e w1 ⟨rfl, hb1⟩
    have HB1 := Kp.mk hb1
    clear hb1 f1
    go_wp2_with fail
    refine (calive_any vl l _ (H1.out.below HB1.out) HF.out).mono ?_
    rw [alT_eq]
    rintro e w2 ⟨rfl, hb2⟩
    have HB2 := Kp.mk (HB1.out.trans (hb2.mono HB1.out.size))
    clear hb2
    have HC := Kp.mk (rcalive_any vl l)
    rw [alT_eq] at HC
    generalize (alA (alR l)).1 = t at *
    generalize (alA (alR l)).2 = m at *
    generalize (alR l).isSome = ob at *
    have HBX := Kp.mk (show Below w2.heap.size w2 (w2.alloc (.cells #[.int .i64 t, .int .i64 m] 34)) from (Below.refl _ _).alloc (Nat.le_refl _) _)
    have HKX := Kp.mk (heap_alloc_new w2 (.cells #[.int .i64 t, .int .i64 m] 34))
    have HBY := Kp.mk (HB2.out.trans (HBX.out.mono HB2.out.size))
    go_wp2_with fail
    refine (HC.out _ (H1.out.below HBY.out) HF.out).mono ?_
    rintro e w3 ⟨rfl, hb3⟩
    have HB3 := Kp.mk (HBY.out.trans (hb3.mono HBY.out.size))
    have HK3 := Kp.mk ((hb3.block w2.heap.size (blk_lt HKX.out)).trans HKX.out)
    clear hb3
    have HBZ := Kp.mk (HB3.out.alloc HB3.out.size (.cells #[.int .i64 t, .int .i64 m] 34))
    have HK4 := Kp.mk (blk_alloc (o2 := .cells #[.int .i64 t, .int .i64 m] 34) HK3.out)
    have c0 := blk_cell (i := 0) HK4.out rfl
    have c1 := blk_cell (i := 1) HK4.out rfl
    have h8 : (ob == ob) = true := by cases ob <;> rfl
    go_wp2_with fail
    refine (lives17_any _).mono ?_
    rintro e w9 ⟨rfl, hb9⟩
    have HB9 := Kp.mk (HBZ.out.trans (hb9.mono HBZ.out.size))
    clear hb9
    go_wp2_with fail
    go_ret
    exact ⟨rfl, HB9.out⟩
theorem calv_arg (v0 : Value) (w : World) (h0 : Arg Try.prog w 22 v0) :
    Calls Try.prog 4 #[v0] w fun e w' => e = .returned (.bool true) ∧ Below w.heap.size w w' := by
  obtain ⟨l, hv, hz⟩ := hlist_argC v0 w h0
  exact calv_walk v0 l w hv hz
end Go.Proofs.Ythlkflneldjnjaa
