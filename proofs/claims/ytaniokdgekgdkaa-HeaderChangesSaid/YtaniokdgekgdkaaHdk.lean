/- HeaderChanges (layer 10). -/
import Derived.Test.YtaniokdgekgdkaaHdg
import Derived.Test.YtaniokdgekgdkaaHdd
import Derived.Test.YtaniokdgekgdkaaHdj
import Derived.Deep.RegionHeld3
namespace Go.Proofs.Ytaniokdgekgdkaa
open Go.RowKit
set_option linter.unusedVariables false
set_option linter.unusedSimpArgs false

theorem hSet_len (l : List Fld) (nm y : ByteArray) : (hSet l nm y).length ≤ l.length + 1 := by
  unfold hSet
  split
  · have := setL_len l nm y; omega
  · simp
theorem hlist_arg2 (v : Value) (w : World) (h : Arg Try.prog w 22 v) : ∃ l, RdF w v l ∧ ∀ p ∈ l, FldOk p :=
  h.list (f := fldC) (Q := FldOk) Try.underlying22 Try.fcellsFld (by omega) fun E hE =>
    fld_of Try.underlying34 Try.underlying9 Try.fcellsFld Try.fcellsFs ⟨_, rfl, rfl, rfl⟩ ⟨_, rfl, rfl, rfl⟩ hE
def hTo (l : List Fld) (x y : ByteArray) : List Fld := l ++ [(x, y)]
theorem hwith_to (v : Value) (l : List Fld) (x y : ByteArray) (w : World) (hv : RdF w v l) (hl : l.length ≤ 100000) :
    Calls Try.prog 24 #[v, .string x, .string y] w (RetF (hTo l x y) w) := hwith_any v l x y w hv hl
theorem rhwith_to (v : Value) (l : List Fld) (x y : ByteArray) (w : World) (hv : RdF w v l) (hl : l.length ≤ 100000) :
    Calls Try.prog 25 #[v, .string x, .string y] w (RetF (hTo l x y) w) := rhwith_any v l x y w hv hl
theorem sameL_me {α : Type} [DecidableEq α] (l : List α) : sameL l l = true := decide_eq_true rfl
set_option maxRecDepth 100000 in
set_option maxHeartbeats 8000000 in
theorem hchg_walk (v1 v2 : Value) (l : List Fld) (ns : List ByteArray) (x y : ByteArray) (w : World) (h1 : RdF w v1 l) (h2 : RdS w v2 ns) (z1 : ∀ p ∈ l, FldOk p) (hx : x.size ≤ maxLen) (hy : y.size ≤ maxLen) :
    Calls Try.prog 4 #[v1, v2, .agg #[.string x, .string y]] w fun e w' => e = .returned (.bool true) ∧ Below w.heap.size w w' := by
  have HBA := Kp.mk ((Below.refl w.heap.size w).alloc (Nat.le_refl _) (.cells #[.string x, .string y] 34))
  have HKA := Kp.mk (heap_alloc_new w (.cells #[.string x, .string y] 34))
  have H1 := Kp.mk h1
  have H2 := Kp.mk h2
  have f1 := few10_any v1 l (w.alloc (.cells #[.string x, .string y] 34)) (h1.below HBA.out) z1
  obtain ⟨a2, cp2, rfl, hc2, -, -⟩ := h2
  clear z1 h1
  go_enter Try.func4, Try.ntmps4
  go_wp2_with fail
  refine f1.mono ?_
  rintro e w1 ⟨rfl, hb1⟩
  have HB1 := Kp.mk (HBA.out.trans (hb1.mono (by simp)))
  have HK1 := Kp.mk ((hb1.block w.heap.size (by simp)).trans HKA.out)
  have hz1 : w.heap.size < w1.heap.size := by have := hb1.size; simp at this; omega
  have d0 := blk_cell (i := 0) HK1.out rfl
  have d1 := blk_cell (i := 1) HK1.out rfl
  clear hb1 f1
  by_cases hok : hFew l = true ∧ ns.length ≤ 20 ∧ x.size ≤ 100 ∧ y.size ≤ 300
  · obtain ⟨hfl, hn, hx1, hy1⟩ := hok
    obtain ⟨hl1, hsm1⟩ := hFew_out hfl
    have S1 := Kp.mk hsm1
    have q1 : ¬ (20 : Int) < (ns.length : Int) := by omega
    have q2 : ¬ (100 : Int) < (x.size : Int) := by omega
    have q3 : ¬ (300 : Int) < (y.size : Int) := by omega
    rw [hfl]
    clear hsm1
    go_wp2_with fail
    go_loopw [32] (fun i wr => ∃ k : Nat, k ≤ ns.length ∧ i = .int .i64 k ∧ (∀ j (hj : j < ns.length), j < k → ns[j].size ≤ 100) ∧ Below w1.heap.size w1 wr) (fun i _ => ns.length - (intOf i).toNat)
    case atStart => exact ⟨0, by omega, rfl, fun j _ h => by omega, Below.refl _ _⟩
    case round =>
      obtain ⟨k, hk, rfl, hh, hb⟩ := hrel
      have HB := Kp.mk (HB1.out.trans (hb.mono (Nat.le_of_lt hz1)))
      have HKR := Kp.mk ((hb.block w.heap.size hz1).trans HK1.out)
      have HBR := Kp.mk hb
      have HH := Kp.mk hh
      have hsz := HB.out.size
      have hzr : w.heap.size < wr.heap.size := Nat.lt_of_lt_of_le hz1 hb.size
      clear hh hb d0 d1
      by_cases hlt : k < ns.length
      · obtain ⟨g, o, rfl, hgl, e0⟩ := rds_cells (H2.out.below HB.out) (by omega)
        have c1 := e0 k hlt
        have q4 : (0 : Int) ≤ (k : Int) := by omega
        have q5 : (k : Int) < (ns.length : Int) := by omega
        clear e0
        generalize hn9 : ns[k] = n at *
        have HN9 := Kp.mk hn9
        clear hn9
        by_cases hnn : n.size ≤ 100
        · have q6 : ¬ (100 : Int) < (n.size : Int) := by omega
          go_wp2_with fail
          go_roundw
          case rel =>
            refine ⟨k + 1, by omega, by go_num, fun j hj h => ?_, HBR.out⟩
            by_cases hjk : j = k
            · subst hjk
              rw [HN9.out]
              exact hnn
            · exact HH.out j hj (by omega)
          case measure => simp [intOf]; omega
        · have q6 : (100 : Int) < (n.size : Int) := by omega
          go_wp2_with fail
          refine (lives10_any _).mono ?_
          rintro e w3 ⟨rfl, hb3⟩
          have HB3 := Kp.mk (HB.out.trans (hb3.mono hsz))
          clear hb3
          go_wp2_with fail
          go_ret
          exact ⟨rfl, HB3.out⟩
      · have S2 := Kp.mk (show ∀ n ∈ ns, n.size ≤ 100000 from fun n hn => by
          obtain ⟨j, hj, rfl⟩ := List.getElem_of_mem hn
          have := HH.out j hj (by omega)
          omega)
        have HWL := Kp.mk (show (hWo l ns).length ≤ 1000000 by have := hWo_len l ns; omega)
        have HTL := Kp.mk (show (hTo l x y).length ≤ 1000000 by unfold hTo; rw [List.length_append]; simp; omega)
        have HSL := Kp.mk (show (hSet l x y).length ≤ 1000000 by have := hSet_len l x y; omega)
        have hx5 : x.size ≤ 100000 := by omega
        have hl5 : l.length ≤ 100000 := by omega
        have hn5 : ns.length ≤ 100000 := by omega
        have HC := Kp.mk (show Below w.heap.size w wr.drew from HB.out.drew)
        have HK0 := Kp.mk (show wr.drew.cell? ⟨w.heap.size, 0, none⟩ = some (.string x) from blk_cell (i := 0) HKR.out rfl)
        have HK1 := Kp.mk (show wr.drew.cell? ⟨w.heap.size, 1, none⟩ = some (.string y) from blk_cell (i := 1) HKR.out rfl)
        have HLT := Kp.mk (show w.heap.size < wr.drew.heap.size from hzr)
        clear HH HBR HB HKR
        go_upto_region 9 with fail
        go_region_held3 (fun w' => w'.cell? ⟨w.heap.size, 0, none⟩ = some (.string x) ∧ w'.cell? ⟨w.heap.size, 1, none⟩ = some (.string y))
          ((exact ⟨HK0.out, HK1.out⟩))
          ((first
            | (go_at_call 22; refine (hwo_any _ _ l ns _ (H1.out.below HC.out) (H2.out.below HC.out) S1.out S2.out hl5 hn5).mono ?_; rintro e wn ⟨u, rfl, ho, hb⟩; obtain ⟨ua, uc, rfl⟩ := own_lenH ho; have HP := Kp.mk (And.intro (rdf_own ho) HWL.out); (try replace HQ := Kp.mk (And.intro (HQ.out.1.below hb) HQ.out.2)); replace HK0 := Kp.mk ((hb.cell (p := ⟨w.heap.size, 0, none⟩) HLT.out).trans HK0.out); replace HK1 := Kp.mk ((hb.cell (p := ⟨w.heap.size, 1, none⟩) HLT.out).trans HK1.out); replace HLT := Kp.mk (Nat.lt_of_lt_of_le HLT.out hb.size); replace HC := Kp.mk (HC.out.trans (hb.mono HC.out.size)); clear ho hb)
            | (go_at_call 23; refine (rhwo_any _ _ l ns _ (H1.out.below HC.out) (H2.out.below HC.out) S1.out S2.out hl5 hn5).mono ?_; rintro e wn ⟨u, rfl, ho, hb⟩; obtain ⟨ua, uc, rfl⟩ := own_lenH ho; have HQ := Kp.mk (And.intro (rdf_own ho) HWL.out); (try replace HP := Kp.mk (And.intro (HP.out.1.below hb) HP.out.2)); replace HK0 := Kp.mk ((hb.cell (p := ⟨w.heap.size, 0, none⟩) HLT.out).trans HK0.out); replace HK1 := Kp.mk ((hb.cell (p := ⟨w.heap.size, 1, none⟩) HLT.out).trans HK1.out); replace HLT := Kp.mk (Nat.lt_of_lt_of_le HLT.out hb.size); replace HC := Kp.mk (HC.out.trans (hb.mono HC.out.size)); clear ho hb)
            | (go_at_call 21; refine (rfsame_any _ _ _ _ _ HP.out.1 HQ.out.1 HP.out.2 HQ.out.2).mono ?_; rw [sameL_me]; rintro e wn ⟨rfl, hb⟩; clear HP HQ; replace HK0 := Kp.mk ((hb.cell (p := ⟨w.heap.size, 0, none⟩) HLT.out).trans HK0.out); replace HK1 := Kp.mk ((hb.cell (p := ⟨w.heap.size, 1, none⟩) HLT.out).trans HK1.out); replace HLT := Kp.mk (Nat.lt_of_lt_of_le HLT.out hb.size); replace HC := Kp.mk (HC.out.trans (hb.mono HC.out.size)); clear hb)
            | (go_at_call 24; refine (hwith_to _ l x y _ (H1.out.below HC.out) hl5).mono ?_; rintro e wn ⟨u, rfl, ho, hb⟩; obtain ⟨ua, uc, rfl⟩ := own_lenH ho; have HP := Kp.mk (And.intro (rdf_own ho) HTL.out); (try replace HQ := Kp.mk (And.intro (HQ.out.1.below hb) HQ.out.2)); replace HK0 := Kp.mk ((hb.cell (p := ⟨w.heap.size, 0, none⟩) HLT.out).trans HK0.out); replace HK1 := Kp.mk ((hb.cell (p := ⟨w.heap.size, 1, none⟩) HLT.out).trans HK1.out); replace HLT := Kp.mk (Nat.lt_of_lt_of_le HLT.out hb.size); replace HC := Kp.mk (HC.out.trans (hb.mono HC.out.size)); clear ho hb)
            | (go_at_call 25; refine (rhwith_to _ l x y _ (H1.out.below HC.out) hl5).mono ?_; rintro e wn ⟨u, rfl, ho, hb⟩; obtain ⟨ua, uc, rfl⟩ := own_lenH ho; have HQ := Kp.mk (And.intro (rdf_own ho) HTL.out); (try replace HP := Kp.mk (And.intro (HP.out.1.below hb) HP.out.2)); replace HK0 := Kp.mk ((hb.cell (p := ⟨w.heap.size, 0, none⟩) HLT.out).trans HK0.out); replace HK1 := Kp.mk ((hb.cell (p := ⟨w.heap.size, 1, none⟩) HLT.out).trans HK1.out); replace HLT := Kp.mk (Nat.lt_of_lt_of_le HLT.out hb.size); replace HC := Kp.mk (HC.out.trans (hb.mono HC.out.size)); clear ho hb)
            | (go_at_call 26; refine (hset_any _ l x y _ (H1.out.below HC.out) S1.out hl5 hx5).mono ?_; rintro e wn ⟨u, rfl, ho, hb⟩; obtain ⟨ua, uc, rfl⟩ := own_lenH ho; have HP := Kp.mk (And.intro (rdf_own ho) HSL.out); (try replace HQ := Kp.mk (And.intro (HQ.out.1.below hb) HQ.out.2)); replace HK0 := Kp.mk ((hb.cell (p := ⟨w.heap.size, 0, none⟩) HLT.out).trans HK0.out); replace HK1 := Kp.mk ((hb.cell (p := ⟨w.heap.size, 1, none⟩) HLT.out).trans HK1.out); replace HLT := Kp.mk (Nat.lt_of_lt_of_le HLT.out hb.size); replace HC := Kp.mk (HC.out.trans (hb.mono HC.out.size)); clear ho hb)
            | (go_at_call 27; refine (rhset_any _ l x y _ (H1.out.below HC.out) S1.out hl5 hx5).mono ?_; rintro e wn ⟨u, rfl, ho, hb⟩; obtain ⟨ua, uc, rfl⟩ := own_lenH ho; have HQ := Kp.mk (And.intro (rdf_own ho) HSL.out); (try replace HP := Kp.mk (And.intro (HP.out.1.below hb) HP.out.2)); replace HK0 := Kp.mk ((hb.cell (p := ⟨w.heap.size, 0, none⟩) HLT.out).trans HK0.out); replace HK1 := Kp.mk ((hb.cell (p := ⟨w.heap.size, 1, none⟩) HLT.out).trans HK1.out); replace HLT := Kp.mk (Nat.lt_of_lt_of_le HLT.out hb.size); replace HC := Kp.mk (HC.out.trans (hb.mono HC.out.size)); clear ho hb)
            | (go_at_call 11; refine (lives10_any _).mono ?_; rintro e wn ⟨rfl, hb⟩; replace HK0 := Kp.mk ((hb.cell (p := ⟨w.heap.size, 0, none⟩) HLT.out).trans HK0.out); replace HK1 := Kp.mk ((hb.cell (p := ⟨w.heap.size, 1, none⟩) HLT.out).trans HK1.out); replace HLT := Kp.mk (Nat.lt_of_lt_of_le HLT.out hb.size); replace HC := Kp.mk (HC.out.trans (hb.mono HC.out.size)); clear hb)))
        all_goals go_wp2_with fail
        all_goals go_ret
        all_goals exact ⟨rfl, HC.out⟩
  · cases hfl : hFew l
    · go_wp2_with fail
      refine (lives10_any _).mono ?_
      rintro e w3 ⟨rfl, hb3⟩
      have HB3 := Kp.mk (HB1.out.trans (hb3.mono HB1.out.size))
      clear hb3
      go_wp2_with fail
      go_ret
      exact ⟨rfl, HB3.out⟩
    · by_cases hn : ns.length ≤ 20
      · have q1 : ¬ (20 : Int) < (ns.length : Int) := by omega
        by_cases hx1 : x.size ≤ 100
        · have q2 : ¬ (100 : Int) < (x.size : Int) := by omega
          by_cases hy1 : y.size ≤ 300
          · exact absurd ⟨hfl, hn, hx1, hy1⟩ hok
          · have q3 : (300 : Int) < (y.size : Int) := by omega
            go_wp2_with fail
            refine (lives10_any _).mono ?_
            rintro e w3 ⟨rfl, hb3⟩
            have HB3 := Kp.mk (HB1.out.trans (hb3.mono HB1.out.size))
            clear hb3
            go_wp2_with fail
            go_ret
            exact ⟨rfl, HB3.out⟩
        · have q2 : (100 : Int) < (x.size : Int) := by omega
          go_wp2_with fail
          refine (lives10_any _).mono ?_
          rintro e w3 ⟨rfl, hb3⟩
          have HB3 := Kp.mk (HB1.out.trans (hb3.mono HB1.out.size))
          clear hb3
          go_wp2_with fail
          go_ret
          exact ⟨rfl, HB3.out⟩
      · have q1 : (20 : Int) < (ns.length : Int) := by omega
        go_wp2_with fail
        refine (lives10_any _).mono ?_
        rintro e w3 ⟨rfl, hb3⟩
        have HB3 := Kp.mk (HB1.out.trans (hb3.mono HB1.out.size))
        clear hb3
        go_wp2_with fail
        go_ret
        exact ⟨rfl, HB3.out⟩
theorem Try.fcellsHStr : Try.prog.cellsOf 9 = 1 := by kernel_rfl
theorem hchg_arg (v0 v1 v2 : Value) (w : World) (h0 : Arg Try.prog w 22 v0) (h1 : Arg Try.prog w 27 v1) (h2 : Arg Try.prog w 34 v2) :
    Calls Try.prog 4 #[v0, v1, v2] w fun e w' => e = .returned (.bool true) ∧ Below w.heap.size w w' := by
  obtain ⟨l, hv, hz⟩ := hlist_arg2 v0 w h0
  obtain ⟨ns, hn, -⟩ := h1.strs Try.underlying27 Try.underlying9 Try.fcellsHStr
  obtain ⟨x, y, rfl, hx, hy⟩ := fld_arg v2 w h2
  exact hchg_walk v0 v1 l ns x y w hv hn hz hx hy
end Go.Proofs.Ytaniokdgekgdkaa
