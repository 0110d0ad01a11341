/- Things in slots (layer 40): what the law asks of a table: its two functions, All over them (bin/mktbk.py). -/
import Derived.Test.YtgamekfickheaaaTbj
namespace Go.Proofs.Ytgamekfickheaaa
open Go.RowKit
set_option linter.unusedVariables false
set_option linter.unusedSimpArgs false

theorem getP_hit {S : List Slt} {i : Nat} {x : Int} (h : i < S.length) (hS : S[i] = (x, true)) : getP S (i : Int) = (x, true) := by rw [getP_in h, hS]
set_option maxRecDepth 100000 in
set_option maxHeartbeats 1000000 in
theorem ts1_any (v : Value) (S : List Slt) (k3 k5 k6 i : Nat) (x nx : Int) (w : World) (hv : RdW w v S) (hl : S.length ≤ 1000) (hi : i < S.length) (hS : S[i] = (x, true)) (hnx : nx < (i : Int))
    (h3 : w.heap[k3]? = some (.cells #[v] 46 (0, 0))) (h5 : w.heap[k5]? = some (.cells #[.int .i64 nx] 3 (0, 0))) (h6 : w.heap[k6]? = some (.cells #[.bool true] 4 (0, 0))) (hne : k5 ≠ k6) :
    Calls Try.prog 91 #[.int .i64 i, .int .i64 x, .pointer (some ⟨k3, 0, none⟩), .pointer (some ⟨k6, 0, none⟩), .pointer (some ⟨k5, 0, none⟩)] w fun e w' => e = .returned (.bool true) ∧ w'.heap[k5]? = some (.cells #[.int .i64 i] 3 (0, 0)) ∧ w'.heap[k6]? = some (.cells #[.bool true] 4 (0, 0)) ∧ Kpt (fun k => k ≠ k5 ∧ k ≠ k6) w w' := by
  have HG := Kp.mk (rsget_any v S (i : Int) w hv hl)
  have hg := getP_hit hi hS
  have hx : rgX S (i : Int) = x := by unfold rgX; rw [hg]; rfl
  rw [hg, hx] at HG
  obtain ⟨a, c, rfl⟩ := rdw_form hv
  have H5 := Kp.mk h5
  have H6 := Kp.mk h6
  have c3 := blk_cell (i := 0) h3 rfl
  have q0 : (0 : Int) ≤ (i : Int) := by omega
  clear hg hx hv hS h3 h5 h6
  go_enter Try.func91, Try.ntmps91
  go_wp2_with fail
  refine HG.out.mono ?_
  rintro e w1 ⟨rfl, hb⟩
  have HK := Kp.mk (Kpt.of (F := fun k => k ≠ k5 ∧ k ≠ k6) hb)
  have h5 := (hb.block _ (blk_lt H5.out)).trans H5.out
  have h6 := (hb.block _ (blk_lt H6.out)).trans H6.out
  have c5 := blk_cell (i := 0) h5 rfl
  have f5 := blk_free (i := 0) h5
  have c6 := blk_cell (i := 0) h6 rfl
  have f6 := blk_free (i := 0) h6
  have G5 := Kp.mk h5
  have G6 := Kp.mk h6
  have n56 : ¬ k5 = k6 := hne
  have n65 : ¬ k6 = k5 := fun e => hne e.symm
  have R6 := Kp.mk (show ((w1.setCell ⟨k6, 0, none⟩ (.bool true)).setCell ⟨k5, 0, none⟩ (.int .i64 i)).heap[k6]? = some (.cells #[.bool true] 4 (0, 0)) from blk_set_other (blk_set h6 (.bool true)) n65 _)
  have R5 := Kp.mk (show ((w1.setCell ⟨k6, 0, none⟩ (.bool true)).setCell ⟨k5, 0, none⟩ (.int .i64 i)).heap[k5]? = some (.cells #[.int .i64 i] 3 (0, 0)) from blk_set (blk_set_other h5 n56 _) (.int .i64 i))
  have RK := Kp.mk (show Kpt (fun k => k ≠ k5 ∧ k ≠ k6) w ((w1.setCell ⟨k6, 0, none⟩ (.bool true)).setCell ⟨k5, 0, none⟩ (.int .i64 i)) from (HK.out.setCell _ _ (by simp)).setCell _ _ (by simp))
  clear hb h5 h6 c3
  go_wp2_with fail
  go_ret
  exact ⟨rfl, R5.out, R6.out, RK.out⟩
set_option maxHeartbeats 1000000 in
theorem ts2_any (k8 : Nat) (i x m : Int) (w : World) (hm : 0 ≤ m ∧ m ≤ 1000) (h8 : w.heap[k8]? = some (.cells #[.int .i64 m] 3 (0, 0))) :
    Calls Try.prog 92 #[.int .i64 i, .int .i64 x, .pointer (some ⟨k8, 0, none⟩)] w fun e w' => e = .returned (.bool (decide (m + 1 < 2))) ∧ w'.heap[k8]? = some (.cells #[.int .i64 (m + 1)] 3 (0, 0)) ∧ Kpt (fun k => k ≠ k8) w w' := by
  have c8 := blk_cell (i := 0) h8 rfl
  have f8 := blk_free (i := 0) h8
  have H8 := Kp.mk h8
  have hw : IntKind.i64.wrap (m + 1) = m + 1 := wrapT4 _ (by omega) (by omega)
  have R8 := Kp.mk (blk_set (i := 0) h8 (.int .i64 (m + 1)))
  have RK := Kp.mk (show Kpt (fun k => k ≠ k8) w (w.setCell ⟨k8, 0, none⟩ (.int .i64 (m + 1))) from (Kpt.refl _ _).setCell _ _ (by simp))
  clear h8
  go_enter Try.func92, Try.ntmps92
  go_wp2_with fail
  go_ret
  exact ⟨rfl, R8.out, RK.out⟩
theorem Kpt.rdw {F : Nat → Prop} {w w' : World} {v : Value} {S : List Slt} (h : Kpt F w w') (hr : RdW w v S) (hF : 0 < S.length → ∀ k, v.ownBlock = some k → F k) : RdW w' v S := by
  rcases Nat.eq_zero_or_pos S.length with h0 | h0
  · obtain ⟨a, c, h1, h2, h3, _⟩ := hr
    exact ⟨a, c, h1, h2, h3, fun h => by omega⟩
  · exact hr.stays h.size fun k hk hv => h.block k hk (hF h0 k hv)
set_option maxRecDepth 100000 in
set_option maxHeartbeats 4000000 in
theorem tall1_any (b g : Nat) (S : List Slt) (v : Value) (kT k3 k5 k6 : Nat) (w : World) (hT : TB b g S w) (hv : RdW w v S) (hl : S.length ≤ 1000)
    (hk : w.heap[kT]? = some (.cells #[.pointer (some ⟨b, 0, none⟩)] 44 (0, 0)))
    (h3 : w.heap[k3]? = some (.cells #[v] 46 (0, 0))) (h5 : w.heap[k5]? = some (.cells #[.int .i64 (-1)] 3 (0, 0))) (h6 : w.heap[k6]? = some (.cells #[.bool true] 4 (0, 0))) (hne : k5 ≠ k6) (n35 : k3 ≠ k5) (n36 : k3 ≠ k6)
    (hvn : 0 < S.length → ∀ k, v.ownBlock = some k → k ≠ k5 ∧ k ≠ k6) :
    Calls Try.prog 134 #[.func (.func 91) #[] #[.pointer (some ⟨k3, 0, none⟩), .pointer (some ⟨k6, 0, none⟩), .pointer (some ⟨k5, 0, none⟩)], .pointer (some ⟨kT, 0, none⟩)] w fun e w' => e = .returned (.tuple #[]) ∧ w'.heap[k6]? = some (.cells #[.bool true] 4 (0, 0)) ∧ Kpt (fun k => k ≠ k5 ∧ k ≠ k6) w w' := by
  have H3 := Kp.mk h3
  have H5 := Kp.mk h5
  have H6 := Kp.mk h6
  have HT := Kp.mk hT
  have HV := Kp.mk hv
  have HVN := Kp.mk hvn
  have ck := blk_cell (i := 0) hk rfl
  have hz5 := blk_lt h5
  have hz6 := blk_lt h6
  have N := Kp.mk (show k5 ≠ k6 ∧ k3 ≠ k5 ∧ k3 ≠ k6 from ⟨hne, n35, n36⟩)
  obtain ⟨a, c, rfl⟩ := rdw_form hv
  clear hT hv hvn hk h3 h5 h6 hne n35 n36
  go_enter Try.func134, Try.ntmps134
  go_wp2_with fail
  refine (tall_any b g S _ HT.out).mono ?_
  rintro e w1 ⟨rfl, rfl⟩
  go_wp2_with fail
  refine (tclone_any g S _ (HT.out.rd hl) hl).mono ?_
  rintro e w2 ⟨u, rfl, ho, hb⟩
  have HB := Kp.mk hb
  have HC := Kp.mk (rdw_own ho)
  have HCN := Kp.mk (show ∀ k, u.ownBlock = some k → k ≠ k5 ∧ k ≠ k6 from fun k hk => by have := (ho.lt k hk).1; omega)
  obtain ⟨au, cu, rfl⟩ := rdw_form HC.out
  clear ho hb ck
  go_wp2_with fail
  go_loopw [9] (fun i wr => ∃ k : Nat, k ≤ S.length ∧ i = .int .i64 k ∧ (∃ nx : Int, nx < (k : Int) ∧ wr.heap[k5]? = some (.cells #[.int .i64 nx] 3 (0, 0))) ∧ wr.heap[k6]? = some (.cells #[.bool true] 4 (0, 0)) ∧ wr.heap[k3]? = some (.cells #[.slice a S.length c] 46 (0, 0)) ∧ RdW wr (.slice a S.length c) S ∧ RdW wr (.slice au S.length cu) S ∧ Kpt (fun k => k ≠ k5 ∧ k ≠ k6) w wr) (fun i _ => S.length - (intOf i).toNat)
  case atStart => exact ⟨0, by omega, rfl, ⟨-1, by omega, (HB.out.block _ hz5).trans H5.out⟩, (HB.out.block _ hz6).trans H6.out, (HB.out.block _ (blk_lt H3.out)).trans H3.out, HV.out.below HB.out, HC.out, Kpt.of HB.out⟩
  case round =>
    obtain ⟨k, hk, rfl, ⟨nx, hnx, h5⟩, h6, h3, hv, hc, hkp⟩ := hrel
    have HK := Kp.mk hkp
    by_cases hlt : k < S.length
    · obtain ⟨g1, o1, rfl, hg1, d0⟩ := rdw_cells hc (by omega)
      obtain ⟨c1, c2⟩ := d0 k hlt
      have q0 : (0 : Int) ≤ (k : Int) := by omega
      have q1 : (k : Int) < (S.length : Int) := by omega
      have hAB := (Below.refl wr.heap.size wr).alloc (Nat.le_refl _) (.cells #[.int .i64 S[k].1, .bool S[k].2] 132)
      have A5 := Kp.mk ((hAB.block _ (blk_lt h5)).trans h5)
      have A6 := Kp.mk ((hAB.block _ (blk_lt h6)).trans h6)
      have A3 := Kp.mk ((hAB.block _ (blk_lt h3)).trans h3)
      have AV := Kp.mk (hv.below hAB)
      have AC := Kp.mk (hc.below hAB)
      have AK := Kp.mk (HK.out.alloc (.cells #[.int .i64 S[k].1, .bool S[k].2] 132))
      have C1 := Kp.mk (fun (x : Int) (hS : S[k] = (x, true)) (w : World) hv h3 h5 h6 => ts1_any (.slice a S.length c) S k3 k5 k6 k x nx w hv hl hlt hS hnx h3 h5 h6 N.out.1)
      clear d0 h5 h6 h3 hv hc hkp hAB
      generalize hp : S[k] = p at *
      obtain ⟨y, o2⟩ := p
      dsimp only at c1 c2 A5 A6 A3 AV AC AK
      clear hp
      cases o2
      · go_wp2_with fail
        go_roundw
        case rel => exact ⟨k + 1, by omega, by go_num, ⟨nx, by omega, A5.out⟩, A6.out, A3.out, AV.out, AC.out, AK.out⟩
        case measure => simp [intOf]; omega
      · go_wp2_with fail
        refine (C1.out y rfl _ AV.out A3.out A5.out A6.out).mono ?_
        rintro e w3 ⟨rfl, r5, r6, rk⟩
        have R5 := Kp.mk r5
        have R6 := Kp.mk r6
        have R3 := Kp.mk ((rk.block _ (blk_lt A3.out) ⟨N.out.2.1, N.out.2.2⟩).trans A3.out)
        have RV := Kp.mk (rk.rdw AV.out (fun h => HVN.out h))
        have RC := Kp.mk (rk.rdw AC.out (fun _ => HCN.out))
        have RK := Kp.mk (AK.out.trans rk)
        clear r5 r6 rk
        go_wp2_with fail
        go_roundw
        case rel => exact ⟨k + 1, by omega, by go_num, ⟨(k : Int), by omega, R5.out⟩, R6.out, R3.out, RV.out, RC.out, RK.out⟩
        case measure => simp [intOf]; omega
    · clear h5 h3 hv hc hkp
      have H6r := Kp.mk h6
      clear h6
      go_wp2_with fail
      first | go_end0 | refine bodyPost_ret (results_none rfl _ _ _) rfl ?_
      exact ⟨rfl, H6r.out, HK.out⟩
theorem lenN_mono (S : List Slt) (k : Nat) : lenN (S.take k) ≤ lenN S := by
  have h : S = S.take k ++ S.drop k := (List.take_append_drop k S).symm
  conv => rhs; rw [h]
  unfold lenN
  rw [List.filter_append, List.length_append]
  omega
set_option maxRecDepth 100000 in
set_option maxHeartbeats 4000000 in
theorem tall2_any (b g : Nat) (S : List Slt) (kT k8 : Nat) (w : World) (hT : TB b g S w) (hl : S.length ≤ 1000)
    (hk : w.heap[kT]? = some (.cells #[.pointer (some ⟨b, 0, none⟩)] 44 (0, 0))) (h8 : w.heap[k8]? = some (.cells #[.int .i64 0] 3 (0, 0))) :
    Calls Try.prog 134 #[.func (.func 92) #[] #[.pointer (some ⟨k8, 0, none⟩)], .pointer (some ⟨kT, 0, none⟩)] w fun e w' => e = .returned (.tuple #[]) ∧ w'.heap[k8]? = some (.cells #[.int .i64 ((min 2 (lenN S) : Nat) : Int)] 3 (0, 0)) ∧ Kpt (fun k => k ≠ k8) w w' := by
  have H8 := Kp.mk h8
  have HT := Kp.mk hT
  have ck := blk_cell (i := 0) hk rfl
  have hz8 := blk_lt h8
  clear hT hk h8
  go_enter Try.func134, Try.ntmps134
  go_wp2_with fail
  refine (tall_any b g S _ HT.out).mono ?_
  rintro e w1 ⟨rfl, rfl⟩
  go_wp2_with fail
  refine (tclone_any g S _ (HT.out.rd hl) hl).mono ?_
  rintro e w2 ⟨u, rfl, ho, hb⟩
  have HB := Kp.mk hb
  have HC := Kp.mk (rdw_own ho)
  have HCN := Kp.mk (show ∀ k, u.ownBlock = some k → k ≠ k8 from fun k hk => by have := (ho.lt k hk).1; omega)
  obtain ⟨au, cu, rfl⟩ := rdw_form HC.out
  clear ho hb ck
  go_wp2_with fail
  go_loopw [9] (fun i wr => ∃ k : Nat, k ≤ S.length ∧ i = .int .i64 k ∧ lenN (S.take k) ≤ 1 ∧ wr.heap[k8]? = some (.cells #[.int .i64 ((lenN (S.take k) : Nat) : Int)] 3 (0, 0)) ∧ RdW wr (.slice au S.length cu) S ∧ Kpt (fun k => k ≠ k8) w wr) (fun i _ => S.length - (intOf i).toNat)
  case atStart => exact ⟨0, by omega, rfl, by simp [lenN], (HB.out.block _ hz8).trans H8.out, HC.out, Kpt.of HB.out⟩
  case round =>
    obtain ⟨k, hk, rfl, hm, h8, hc, hkp⟩ := hrel
    have HK := Kp.mk hkp
    by_cases hlt : k < S.length
    · obtain ⟨g1, o1, rfl, hg1, d0⟩ := rdw_cells hc (by omega)
      obtain ⟨c1, c2⟩ := d0 k hlt
      have q0 : (0 : Int) ≤ (k : Int) := by omega
      have q1 : (k : Int) < (S.length : Int) := by omega
      have hAB := (Below.refl wr.heap.size wr).alloc (Nat.le_refl _) (.cells #[.int .i64 S[k].1, .bool S[k].2] 132)
      have A8 := Kp.mk ((hAB.block _ (blk_lt h8)).trans h8)
      have AC := Kp.mk (hc.below hAB)
      have AK := Kp.mk (HK.out.alloc (.cells #[.int .i64 S[k].1, .bool S[k].2] 132))
      have HN := Kp.mk (lenN_take hlt)
      have HMO := Kp.mk (lenN_mono S (k + 1))
      clear d0 h8 hc hkp hAB
      generalize hp : S[k] = p at *
      obtain ⟨y, o2⟩ := p
      dsimp only at c1 c2 A8 AC AK HN
      clear hp
      generalize lenN (S.take k) = m at *
      cases o2
      · have HN2 := Kp.mk (show lenN (S.take (k + 1)) = m by rw [HN.out]; rfl)
        go_wp2_with fail
        go_roundw
        case rel => exact ⟨k + 1, by omega, by go_num, by rw [HN2.out]; exact hm, by rw [HN2.out]; exact A8.out, AC.out, AK.out⟩
        case measure => simp [intOf]; omega
      · have HN2 := Kp.mk (show lenN (S.take (k + 1)) = m + 1 by rw [HN.out]; rfl)
        have C2 := Kp.mk (fun x w h8 => ts2_any k8 (k : Int) x (m : Int) w (by omega) h8)
        rcases (by omega : m = 0 ∨ m = 1) with rfl | rfl
        · go_wp2_with fail
          refine (C2.out y _ A8.out).mono ?_
          rintro e w3 ⟨rfl, r8, rk⟩
          have R8 := Kp.mk r8
          have RC := Kp.mk (rk.rdw AC.out (fun _ => HCN.out))
          have RK := Kp.mk (AK.out.trans rk)
          clear r8 rk
          go_wp2_with fail
          go_roundw
          case rel => exact ⟨k + 1, by omega, by go_num, by rw [HN2.out]; omega, by rw [HN2.out]; exact R8.out, RC.out, RK.out⟩
          case measure => simp [intOf]; omega
        · have HE := Kp.mk (show min 2 (lenN S) = 2 by have h1 := HN2.out; have h2 := HMO.out; omega)
          go_wp2_with fail
          refine (C2.out y _ A8.out).mono ?_
          rintro e w3 ⟨rfl, r8, rk⟩
          have R8 := Kp.mk r8
          have RK := Kp.mk (AK.out.trans rk)
          clear r8 rk
          go_wp2_with fail
          first | go_end0 | refine bodyPost_ret (v := .tuple #[]) (results_none rfl _ _ _) rfl ?_
          exact ⟨rfl, by rw [HE.out]; exact R8.out, RK.out⟩
    · have HE := Kp.mk (show lenN (S.take k) = min 2 (lenN S) by rw [List.take_of_length_le (by omega)] at hm ⊢; omega)
      have H8r := Kp.mk h8
      clear h8 hc hkp
      go_wp2_with fail
      first | go_end0 | refine bodyPost_ret (v := .tuple #[]) (results_none rfl _ _ _) rfl ?_
      exact ⟨rfl, by rw [← HE.out]; exact H8r.out, HK.out⟩
end Go.Proofs.Ytgamekfickheaaa
