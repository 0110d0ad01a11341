/- Dates of a head's fields (layer 30): the document's Dated and Fix, DatefixFixes (bin/mkdfc.py). -/
import Derived.Test.YtgamekfickheaaaDfb
import Derived.Test.YtgamekfickheaaaDtv
namespace Go.Proofs.Ytgamekfickheaaa
open Go.RowKit
set_option linter.unusedVariables false
set_option linter.unusedSimpArgs false

theorem low_dat1 : (lowB ⟨#[68, 97, 116, 101]⟩).toList = [100, 97, 116, 101] := by rw [show lowB ⟨#[68, 97, 116, 101]⟩ = ⟨#[100, 97, 116, 101]⟩ from rfl, ByteArray.toList_eq]
theorem low_dat2 : (lowB ⟨#[69, 120, 112, 105, 114, 101, 115]⟩).toList = [101, 120, 112, 105, 114, 101, 115] := by rw [show lowB ⟨#[69, 120, 112, 105, 114, 101, 115]⟩ = ⟨#[101, 120, 112, 105, 114, 101, 115]⟩ from rfl, ByteArray.toList_eq]
theorem low_dat3 : (lowB ⟨#[76, 97, 115, 116, 45, 77, 111, 100, 105, 102, 105, 101, 100]⟩).toList = [108, 97, 115, 116, 45, 109, 111, 100, 105, 102, 105, 101, 100] := by rw [show lowB ⟨#[76, 97, 115, 116, 45, 77, 111, 100, 105, 102, 105, 101, 100]⟩ = ⟨#[108, 97, 115, 116, 45, 109, 111, 100, 105, 102, 105, 101, 100]⟩ from rfl, ByteArray.toList_eq]
theorem low_dat4 : (lowB ⟨#[73, 102, 45, 77, 111, 100, 105, 102, 105, 101, 100, 45, 83, 105, 110, 99, 101]⟩).toList = [105, 102, 45, 109, 111, 100, 105, 102, 105, 101, 100, 45, 115, 105, 110, 99, 101] := by rw [show lowB ⟨#[73, 102, 45, 77, 111, 100, 105, 102, 105, 101, 100, 45, 83, 105, 110, 99, 101]⟩ = ⟨#[105, 102, 45, 109, 111, 100, 105, 102, 105, 101, 100, 45, 115, 105, 110, 99, 101]⟩ from rfl, ByteArray.toList_eq]
theorem low_dat5 : (lowB ⟨#[73, 102, 45, 85, 110, 109, 111, 100, 105, 102, 105, 101, 100, 45, 83, 105, 110, 99, 101]⟩).toList = [105, 102, 45, 117, 110, 109, 111, 100, 105, 102, 105, 101, 100, 45, 115, 105, 110, 99, 101] := by rw [show lowB ⟨#[73, 102, 45, 85, 110, 109, 111, 100, 105, 102, 105, 101, 100, 45, 83, 105, 110, 99, 101]⟩ = ⟨#[105, 102, 45, 117, 110, 109, 111, 100, 105, 102, 105, 101, 100, 45, 115, 105, 110, 99, 101]⟩ from rfl, ByteArray.toList_eq]
theorem datB_eq (x : ByteArray) : datB x = (((lowB x).toList == [100, 97, 116, 101]) || (((lowB x).toList == [101, 120, 112, 105, 114, 101, 115]) || (((lowB x).toList == [108, 97, 115, 116, 45, 109, 111, 100, 105, 102, 105, 101, 100]) || (((lowB x).toList == [105, 102, 45, 109, 111, 100, 105, 102, 105, 101, 100, 45, 115, 105, 110, 99, 101]) || ((lowB x).toList == [105, 102, 45, 117, 110, 109, 111, 100, 105, 102, 105, 101, 100, 45, 115, 105, 110, 99, 101]))))) := by
  unfold datB hHas datN
  simp only [List.any_cons, List.any_nil, Bool.or_false]
  unfold foldB
  rw [low_dat1, low_dat2, low_dat3, low_dat4, low_dat5]
set_option maxRecDepth 100000 in
set_option maxHeartbeats 2000000 in
theorem rdated_any (x : ByteArray) (w : World) (hx : x.size ≤ 100000) :
    Calls Try.prog 24 #[.string x] w fun e w' => e = .returned (.bool (datB x)) ∧ Below w.heap.size w w' := by
  have HE := Kp.mk (datB_eq x)
  go_enter Try.func24, Try.ntmps24
  go_wp2_with fail
  refine (ref_lower_any x _ (by omega)).mono ?_
  rintro e w1 ⟨rfl, hb⟩
  have HB := Kp.mk hb
  clear hb
  generalize lowB x = s at *
  by_cases g1 : s.toList = [100, 97, 116, 101]
  · have t1 : (s.toList == [100, 97, 116, 101]) = true := by rw [g1]; rfl
    go_wp2_with fail
    go_ret
    exact ⟨by rw [HE.out, t1]; rfl, HB.out⟩
  have t1 : (s.toList == [100, 97, 116, 101]) = false := by rw [beq_eq_false_iff_ne]; exact g1
  by_cases g2 : s.toList = [101, 120, 112, 105, 114, 101, 115]
  · have t2 : (s.toList == [101, 120, 112, 105, 114, 101, 115]) = true := by rw [g2]; rfl
    go_wp2_with fail
    go_ret
    exact ⟨by rw [HE.out, t1, t2]; rfl, HB.out⟩
  have t2 : (s.toList == [101, 120, 112, 105, 114, 101, 115]) = false := by rw [beq_eq_false_iff_ne]; exact g2
  by_cases g3 : s.toList = [108, 97, 115, 116, 45, 109, 111, 100, 105, 102, 105, 101, 100]
  · have t3 : (s.toList == [108, 97, 115, 116, 45, 109, 111, 100, 105, 102, 105, 101, 100]) = true := by rw [g3]; rfl
    go_wp2_with fail
    go_ret
    exact ⟨by rw [HE.out, t1, t2, t3]; rfl, HB.out⟩
  have t3 : (s.toList == [108, 97, 115, 116, 45, 109, 111, 100, 105, 102, 105, 101, 100]) = false := by rw [beq_eq_false_iff_ne]; exact g3
  by_cases g4 : s.toList = [105, 102, 45, 109, 111, 100, 105, 102, 105, 101, 100, 45, 115, 105, 110, 99, 101]
  · have t4 : (s.toList == [105, 102, 45, 109, 111, 100, 105, 102, 105, 101, 100, 45, 115, 105, 110, 99, 101]) = true := by rw [g4]; rfl
    go_wp2_with fail
    go_ret
    exact ⟨by rw [HE.out, t1, t2, t3, t4]; rfl, HB.out⟩
  have t4 : (s.toList == [105, 102, 45, 109, 111, 100, 105, 102, 105, 101, 100, 45, 115, 105, 110, 99, 101]) = false := by rw [beq_eq_false_iff_ne]; exact g4
  by_cases g5 : s.toList = [105, 102, 45, 117, 110, 109, 111, 100, 105, 102, 105, 101, 100, 45, 115, 105, 110, 99, 101]
  · have t5 : (s.toList == [105, 102, 45, 117, 110, 109, 111, 100, 105, 102, 105, 101, 100, 45, 115, 105, 110, 99, 101]) = true := by rw [g5]; rfl
    go_wp2_with fail
    go_ret
    exact ⟨by rw [HE.out, t1, t2, t3, t4, t5]; rfl, HB.out⟩
  have t5 : (s.toList == [105, 102, 45, 117, 110, 109, 111, 100, 105, 102, 105, 101, 100, 45, 115, 105, 110, 99, 101]) = false := by rw [beq_eq_false_iff_ne]; exact g5
  go_wp2_with fail
  go_ret
  exact ⟨by rw [HE.out, t1, t2, t3, t4, t5]; rfl, HB.out⟩
theorem setcell_ownD {w w2 : World} {B g i : Nat} {u : Value} {v : Value} {n : Nat} {xs : List Value} (h : w.ownsRow B 35 2 v n xs) (hb : Below w.heap.size w w2) (hg : w.heap.size ≤ g) : (w2.setCell ⟨g, i, none⟩ u).ownsRow B 35 2 v n xs :=
  own_bel h (hb.setCell hg u)
theorem dfL_take {now : Int} {l : List Fld} {k : Nat} (h : k < l.length) : dfL now (l.take (k + 1)) = dfL now (l.take k) ++ [dfG now l[k]] := by
  unfold dfL
  rw [List.take_succ_eq_append_getElem h, List.map_append]
  rfl
theorem dfL_len (now : Int) (l : List Fld) : (dfL now l).length = l.length := List.length_map _
set_option maxRecDepth 100000 in
set_option maxHeartbeats 4000000 in
theorem rdatefix_any (v : Value) (l : List Fld) (now : Int) (w : World) (hv : RdF w v l) (hz : ∀ p ∈ l, FldSm p) (hl : l.length ≤ 10000) (n0 : -9223372036854775808 ≤ now) (n1 : now ≤ 9223372036854775807) :
    Calls Try.prog 22 #[v, .int .i64 now] w (RetF (dfL now l) w) := by
  have HV := Kp.mk hv
  have HZ := Kp.mk hz
  have HFX := Kp.mk (fun (x : ByteArray) w (hx : x.size ≤ 100000) => dfix_any x now w hx n0 n1)
  obtain ⟨a, cap, rfl, hc1, hc2, -⟩ := hv
  clear hz hc2 n0 n1
  go_enter Try.func22, Try.ntmps22
  go_wp2_with fail
  go_loopw [5, 6] (fun vs i wr => ∃ k : Nat, k ≤ l.length ∧ i = .int .i64 k ∧ wr.ownsRow w.heap.size 35 2 vs (dfL now (l.take k)).length (fvH (dfL now (l.take k))) ∧ Below w.heap.size w wr) (fun _ i _ => l.length - (intOf i).toNat)
  case atStart => exact ⟨0, by omega, rfl, World.ownsRow_lit (base := w.heap.size) (e := 35) (size := 2) w #[] 0 (Nat.le_refl _) (by unfold maxLen; omega) rfl, (Below.refl _ _).alloc (Nat.le_refl _) _⟩
  case round =>
    obtain ⟨k, hk, rfl, hown, hb⟩ := hrel
    obtain ⟨a2, cp, rfl⟩ := own_lenH hown
    have HB := Kp.mk hb
    have HO := Kp.mk hown
    have hsz := hb.size
    have hle : (dfL now (l.take k)).length ≤ k := by rw [dfL_len, List.length_take]; omega
    clear hown hb
    by_cases hlt : k < l.length
    · obtain ⟨g, o, rfl, hgl, d0⟩ := rdf_cells (HV.out.below HB.out) (by omega)
      obtain ⟨c1, c2⟩ := d0 k hlt
      obtain ⟨m1, m2⟩ := HZ.out l[k] (List.getElem_mem hlt)
      have q0 : (0 : Int) ≤ (k : Int) := by omega
      have q1 : (k : Int) < (l.length : Int) := by omega
      have HT := Kp.mk (dfL_take (now := now) hlt)
      clear d0
      generalize l[k] = p at *
      obtain ⟨x, z⟩ := p
      simp only at c1 c2 m1 m2
      generalize dfL now (l.take k) = s at *
      go_wp2_with fail
      refine (rdated_any x _ m1).mono ?_
      rintro e w2 ⟨rfl, hb2⟩
      have hz2 : wr.heap.size < w2.heap.size := by have := hb2.size; simp at this; omega
      have hk2 := (hb2.block wr.heap.size (by simp)).trans (heap_alloc_new wr (.cells #[.string x, .string z] 35))
      have HK2 := Kp.mk hk2
      have HBI := Kp.mk (((Below.refl wr.heap.size wr).alloc (Nat.le_refl _) (.cells #[.string x, .string z] 35)).trans (hb2.mono (by simp)))
      have HB2 := Kp.mk (HB.out.trans (HBI.out.mono hsz))
      have HO2 := Kp.mk (own_bel HO.out HBI.out)
      have hsz2 := HB2.out.size
      clear hb2 hk2
      have hlen : (s.length + 1) * 32 ≤ 140737488355328 := by omega
      have hmx : s.length + 1 ≤ maxLen := by unfold maxLen; omega
      cases hd : datB x
      · have HT2 := Kp.mk (show dfL now (l.take (k + 1)) = s ++ [(x, z)] by rw [HT.out]; unfold dfG dfV; rw [hd]; rfl)
        have d1 := blk_cell (i := 0) HK2.out rfl
        have d2 := blk_cell (i := 1) HK2.out rfl
        go_wp2_with (at_builtin; refine app_any rfl _ _ _ _ rfl Try.underlying28 _ _ _ Try.infoFH rfl (by omega) w.heap.size _ _ _ rfl HO2.out #[.string x, .string z] rfl (fun u hu => by simp at hu; rcases hu with rfl | rfl <;> rfl) _ rfl rfl hlen hmx hsz2 ?_; intro g' cap' w' h1 h2 h3; have H1 := Kp.mk h1; have H2 := Kp.mk h2; clear h1 h2 h3)
        go_roundw
        case rel =>
          refine ⟨k + 1, by omega, by go_num, ?_, HB2.out.trans ((grown_bel HO2.out hsz2 H2.out))⟩
          rw [HT2.out, List.length_append, fvH_snoc]
          exact H1.out
        case measure => simp [intOf]; omega
      · have HT2 := Kp.mk (show dfL now (l.take (k + 1)) = s ++ [(x, fixF now z.data.toList)] by rw [HT.out]; unfold dfG dfV; rw [hd]; rfl)
        have C1 := Kp.mk (fun w => HFX.out z w m2)
        generalize fixF now z.data.toList = y at *
        have d2 := blk_cell (i := 1) HK2.out rfl
        go_wp2_with fail
        refine (C1.out _).mono ?_
        rintro e w3 ⟨rfl, hb3⟩
        have HK3 := Kp.mk ((hb3.block _ (blk_lt HK2.out)).trans HK2.out)
        have HBI3 := Kp.mk (HBI.out.trans (hb3.mono HBI.out.size))
        have HB3 := Kp.mk ((HB.out.trans (HBI3.out.mono hsz)).setCell (p := ⟨wr.heap.size, 1, none⟩) hsz (.string y))
        have HO3 := Kp.mk (setcell_ownD (i := 1) (u := .string y) HO.out HBI3.out (Nat.le_refl _))
        have hk3 := blk_set (i := 1) HK3.out (.string y)
        clear d2 hb3
        have e1 := blk_cell (i := 0) hk3 rfl
        have e2 := blk_cell (i := 1) hk3 rfl
        have e0 := blk_cell (i := 1) HK3.out rfl
        have ez := blk_free (i := 1) HK3.out
        have hsz3 := HB3.out.size
        clear hk3
        go_wp2_with (at_builtin; refine app_any rfl _ _ _ _ rfl Try.underlying28 _ _ _ Try.infoFH rfl (by omega) w.heap.size _ _ _ rfl HO3.out #[.string x, .string y] rfl (fun u hu => by simp at hu; rcases hu with rfl | rfl <;> rfl) w3.heap.size (by simp [World.setCell]) rfl hlen hmx hsz3 ?_; intro g' cap' w' h1 h2 h3; have H1 := Kp.mk h1; have H2 := Kp.mk h2; clear h1 h2 h3)
        go_roundw
        case rel =>
          refine ⟨k + 1, by omega, by go_num, ?_, HB3.out.trans ((grown_bel HO3.out hsz3 H2.out))⟩
          rw [HT2.out, List.length_append, fvH_snoc]
          exact H1.out
        case measure => simp [intOf]; omega
    · have HK := Kp.mk (show l.take k = l from List.take_of_length_le (by omega))
      go_wp2_with fail
      go_ret
      refine ⟨_, rfl, ?_, HB.out⟩
      have h9 := HO.out
      rw [HK.out] at h9 ⊢
      exact h9
set_option maxRecDepth 100000 in
set_option maxHeartbeats 2000000 in
theorem dfixes_walk (v : Value) (l : List Fld) (now : Int) (nm : ByteArray) (w : World) (hv : RdF w v l) (hz : ∀ p ∈ l, FldOk p) (n0 : -9223372036854775808 ≤ now) (n1 : now ≤ 9223372036854775807) (hn : nm.size ≤ maxLen) :
    Calls Try.prog 4 #[v, .int .i64 now, .string nm] w fun e w' => e = .returned (.bool true) ∧ Below w.heap.size w w' := by
  unfold maxLen at hn
  have HF1 := Kp.mk (few10_any v l w hv hz)
  have HV := Kp.mk hv
  clear hz
  cases hfl : hFew l
  · rw [hfl] at HF1
    clear hv
    go_enter Try.func4, Try.ntmps4
    go_wp2_with fail
    refine HF1.out.mono ?_
    rintro e w1 ⟨rfl, hb⟩
    have HB1 := Kp.mk hb
    clear hb
    go_wp2_with fail
    refine (lives30_any _).mono ?_
    rintro e w9 ⟨rfl, hb9⟩
    have HB9 := Kp.mk (HB1.out.trans (hb9.mono HB1.out.size))
    clear hb9
    go_wp2_with fail
    go_ret
    exact ⟨rfl, HB9.out⟩
  · rw [hfl] at HF1
    obtain ⟨hl, hsm⟩ := hFew_out hfl
    by_cases h1 : nm.size ≤ 100
    rotate_left
    · have q1 : (100 : Int) < (nm.size : Int) := by omega
      clear hv hsm
      go_enter Try.func4, Try.ntmps4
      go_wp2_with fail
      refine HF1.out.mono ?_
      rintro e w1 ⟨rfl, hb⟩
      have HB1 := Kp.mk hb
      clear hb
      go_wp2_with fail
      refine (lives30_any _).mono ?_
      rintro e w9 ⟨rfl, hb9⟩
      have HB9 := Kp.mk (HB1.out.trans (hb9.mono HB1.out.size))
      clear hb9
      go_wp2_with fail
      go_ret
      exact ⟨rfl, HB9.out⟩
    have q1 : ¬ (100 : Int) < (nm.size : Int) := by omega
    have HP := Kp.mk (fun w v hv => datefix_any v l now w hv hsm (by omega) n0 n1)
    have HQ := Kp.mk (fun w v hv => rdatefix_any v l now w hv hsm (by omega) n0 n1)
    have hml : (dfL now l).length ≤ 40 := by rw [dfL_len]; exact hl
    have C1 := Kp.mk (fun w => dated_any nm w (by omega))
    have C2 := Kp.mk (fun w => rdated_any nm w (by omega))
    generalize datB nm = b at *
    generalize dfL now l = M at *
    have tb : (b == b) = true := by simp
    clear hsm hfl n0 n1 hv
    go_enter Try.func4, Try.ntmps4
    go_wp2_with fail
    refine HF1.out.mono ?_
    rintro e w1 ⟨rfl, hb⟩
    have HB1 := Kp.mk hb
    clear hb HF1
    go_wp2_with fail
    refine (HP.out _ _ (HV.out.below HB1.out)).mono ?_
    rintro e w2 ⟨u, rfl, ho, hb⟩
    have HB2 := Kp.mk (HB1.out.trans (hb.mono HB1.out.size))
    have RM := Kp.mk (rdf_own ho)
    obtain ⟨am, cm, rfl⟩ := own_lenH ho
    clear ho hb
    go_wp2_with fail
    refine (HQ.out _ _ (HV.out.below HB2.out)).mono ?_
    rintro e w3 ⟨u3, rfl, ho, hb⟩
    have HB3 := Kp.mk (HB2.out.trans (hb.mono HB2.out.size))
    have RM3 := Kp.mk (RM.out.below hb)
    have RN := Kp.mk (rdf_own ho)
    obtain ⟨an, cn, rfl⟩ := own_lenH ho
    clear ho hb
    go_wp2_with fail
    refine (rfsame_any _ _ M M _ RM3.out RN.out (by omega) (by omega)).mono ?_
    have hsame : sameL M M = true := decide_eq_true rfl
    rw [hsame]
    rintro e w4 ⟨rfl, hb⟩
    have HB4 := Kp.mk (HB3.out.trans (hb.mono HB3.out.size))
    clear hb
    go_wp2_with fail
    refine (C1.out _).mono ?_
    rintro e w5 ⟨rfl, hb⟩
    have HB5 := Kp.mk (HB4.out.trans (hb.mono HB4.out.size))
    clear hb
    go_wp2_with fail
    refine (C2.out _).mono ?_
    rintro e w6 ⟨rfl, hb⟩
    have HB1 := Kp.mk (HB5.out.trans (hb.mono HB5.out.size))
    clear hb
    go_wp2_with fail
    refine (lives30_any _).mono ?_
    rintro e w9 ⟨rfl, hb9⟩
    have HB9 := Kp.mk (HB1.out.trans (hb9.mono HB1.out.size))
    clear hb9
    go_wp2_with fail
    go_ret
    exact ⟨rfl, HB9.out⟩
theorem dfixes_arg (v0 v1 v2 : Value) (w : World) (h0 : Arg Try.prog w 28 v0) (h1 : Arg Try.prog w 3 v1) (h2 : Arg Try.prog w 9 v2) :
    Calls Try.prog 4 #[v0, v1, v2] w fun e w' => e = .returned (.bool true) ∧ Below w.heap.size w w' := by
  obtain ⟨l, hv, hz⟩ := hlist_df v0 w h0
  obtain ⟨m, rfl, wm⟩ := h1.int Try.underlying3
  obtain ⟨x, rfl, hx⟩ := h2.str Try.underlying9
  obtain ⟨x0, x1⟩ := bounds_i64 wm
  exact dfixes_walk v0 l m x w hv hz x0 x1 hx
end Go.Proofs.Ytgamekfickheaaa
