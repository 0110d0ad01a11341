/- Lines that begin chunks: the law ChunkSizes (layer 14). -/
import Derived.Test.YtjbadcfhhcmnoaaChc
import Derived.OpenShut
namespace Go.Proofs.Ytjbadcfhhcmnoaa
open Go.RowKit
set_option linter.unusedVariables false
set_option linter.unusedSimpArgs false

def signsB : ByteArray := ⟨#[48, 49, 50, 51, 52, 53, 54, 55, 56, 57, 97, 98, 99, 100, 101, 102]⟩
theorem signsB_eq : (⟨#[48, 49, 50, 51, 52, 53, 54, 55, 56, 57, 97, 98, 99, 100, 101, 102]⟩ : ByteArray) = signsB := rfl
theorem signsB_size : signsB.size = 16 := rfl
theorem signs_one : ∀ d, d < 16 → (signsB.extract d (d + 1)).data.toList = [sgn d] := by decide +kernel

theorem rem16 (m : Nat) (w : World) (hm : m < 9223372036854775808) : (binOp .rem 83 (.int .u64 (m : Int)) (.int .u64 16)).run Try.prog w = .ok (.int .u64 ((m % 16 : Nat) : Int)) w := by
  have d1 : ((m : Int).tmod 16) = ((m % 16 : Nat) : Int) := by rw [Int.tmod_eq_emod_of_nonneg (by omega)]; omega
  go_simp

set_option maxRecDepth 100000 in
set_option maxHeartbeats 4000000 in
theorem rdigits16 (n : Nat) (w : World) (hn : n < 9223372036854775808) :
    Calls Try.prog 95 #[.int .u64 n, .int .u64 16] w fun e w' => e = .returned (.string (ofL (wdig 16 1 n))) ∧ Below w.heap.size w w' := by
  go_enter Try.func95, Try.ntmps95
  go_wp2_with fail
  rw [signsB_eq]
  have hss := signsB_size
  go_loopw [0, 6] (fun t o wr => ∃ (m : Nat) (x : ByteArray), t = .int .u64 m ∧ o = .string x ∧ m < 9223372036854775808 ∧ x.size ≤ 20 ∧ m * 16 ^ x.size ≤ n ∧ (x.size = 0 ∨ 0 < m) ∧ wdig 16 1 n = wdigAux 16 1 (20 - x.size) m x.data.toList ∧ ∃ q, wr = w.drewN q) (fun t _ _ => (intOf t).toNat)
  case atStart => exact ⟨n, ⟨#[]⟩, rfl, rfl, hn, by decide, by simp [ByteArray.size], .inl rfl, rfl, 0, rfl⟩
  case round =>
    obtain ⟨m, x, rfl, rfl, hm, hx20, hpw, hpos, hwd, q, rfl⟩ := hrel
    have HPW := Hd.mk hpw
    have HPOS := Hd.mk hpos
    have HWD := Hd.mk hwd
    clear hpw hpos hwd
    have hroom : 0 < m → x.size < 20 := fun h => by
      rcases Nat.lt_or_ge x.size 20 with h1 | h1
      · exact h1
      · exact absurd (pow_room (by omega) HPW.out h (by omega) h1) id
    by_cases hge : 16 ≤ m
    · have hr := hroom (by omega)
      have hd : m % 16 < 16 := Nat.mod_lt _ (by omega)
      have hrem := fun w => rem16 m w hm
      have HDV := Hd.mk (show ((m : Int) / 16) = ((m / 16 : Nat) : Int) by omega)
      have HST := Hd.mk (show wdigAux 16 1 (20 - x.size) m x.data.toList = wdigAux 16 1 (20 - (x.size + 1)) (m / 16) (sgn (m % 16) :: x.data.toList) by
        rw [show 20 - x.size = (20 - (x.size + 1)) + 1 from by omega, wdigAux_step (.inl (by omega))])
      have HPS := Hd.mk (pow_step (b := 16) (k := x.size) (n := m) (n0 := n) (by omega) HPW.out)
      have HDIV := Hd.mk (Nat.div_pos hge (by omega : 0 < 16))
      obtain ⟨d, hdd⟩ : ∃ d, d = m % 16 := ⟨_, rfl⟩
      have HDD := Hd.mk hdd
      rw [← hdd] at hd
      simp only [← hdd] at hrem
      have HD := Hd.mk (signs_one d hd)
      have HAP := Hd.mk (show (signsB.extract d (d + 1) ++ x).data.toList = sgn d :: x.data.toList by rw [app_list, HD.out]; rfl)
      have hes : (signsB.extract d (d + 1)).size = 1 := by rw [ba_len HD.out]; rfl
      have b0 : (0 : Int) ≤ (d : Int) := by omega
      have b1 : (d : Int) + 1 ≤ 16 := by omega
      clear hdd
      go_wp2_with fail
      go_quiet (fail)
      go_wp2_with fail
      go_roundw
      case rel =>
        have hsz : (signsB.extract d (d + 1) ++ x).size = x.size + 1 := by rw [ba_len HAP.out, List.length_cons, ← ba_size]
        refine ⟨m / 16, signsB.extract d (d + 1) ++ x, by rw [← HDV.out], by rw [← HDD.out], by omega, by omega, by rw [hsz]; exact HPS.out, .inr HDIV.out, by rw [HWD.out, HST.out, hsz, HAP.out, HDD.out], _, rfl⟩
      case measure => simp [intOf]; omega
    · have hm16 : m < 16 := by omega
      have HD := Hd.mk (signs_one m hm16)
      have HAP := Hd.mk (show (signsB.extract m (m + 1) ++ x).data.toList = sgn m :: x.data.toList by rw [app_list, HD.out]; rfl)
      have hes : (signsB.extract m (m + 1)).size = 1 := by rw [ba_len HD.out]; rfl
      have HFIN := Hd.mk (show ofL (wdig 16 1 n) = signsB.extract m (m + 1) ++ x by
        refine (ba_eq _ _ ?_).symm
        rw [HAP.out, HWD.out]
        have hr : x.size < 20 := by
          rcases HPOS.out with h | h
          · omega
          · exact hroom h
        rw [show 20 - x.size = (20 - (x.size + 1)) + 1 from by omega]
        rw [wdigAux_step (by
          rcases HPOS.out with h | h
          · right; rw [← ba_size]; omega
          · left; exact h), Nat.mod_eq_of_lt hm16, Nat.div_eq_of_lt hm16, wdigAux_stop (by simp)])
      have b0 : (0 : Int) ≤ (m : Int) := by omega
      have b1 : (m : Int) + 1 ≤ 16 := by omega
      go_wp2_with fail
      go_ret
      exact ⟨by rw [HFIN.out]; rfl, below_drewN _ _⟩

theorem rhextext_any (n : Int) (w : World) (h0 : -9223372036854775808 ≤ n) (h1 : n ≤ 9223372036854775807) :
    Calls Try.prog 80 #[.int .i64 n] w fun e w' => e = .returned (.string (ofL (hexL n))) ∧ Below w.heap.size w w' := by
  by_cases hn : n < 0
  · have HQ := Hd.mk (show ofL (hexL n) = ⟨#[]⟩ by unfold hexL; rw [if_pos hn]; rfl)
    go_enter Try.func80, Try.ntmps80
    go_wp2_with fail
    go_ret
    exact ⟨by rw [HQ.out]; rfl, Below.refl _ _⟩
  · obtain ⟨N, rfl⟩ : ∃ N : Nat, n = N := ⟨n.toNat, by omega⟩
    have hN : N < 9223372036854775808 := by omega
    have HQ := Hd.mk (show hexL (N : Int) = wdig 16 1 N by unfold hexL; rw [if_neg hn]; simp)
    clear hn
    go_enter Try.func80, Try.ntmps80
    go_wp2_with fail
    refine (rdigits16 N _ hN).mono ?_
    rintro e w1 ⟨rfl, hb1⟩
    go_wp2_with fail
    go_ret
    exact ⟨by rw [HQ.out]; rfl, hb1⟩
theorem rline_any (n : Int) (w : World) (h0 : -9223372036854775808 ≤ n) (h1 : n ≤ 9223372036854775807) :
    Calls Try.prog 49 #[.int .i64 n] w fun e w' => e = .returned (.string (lineS n)) ∧ Below w.heap.size w w' := by
  by_cases hn : n < 0
  · have HQ := Hd.mk (show lineS n = ⟨#[]⟩ by unfold lineS; rw [if_pos hn])
    go_enter Try.func49, Try.ntmps49
    go_wp2_with fail
    go_ret
    exact ⟨by rw [HQ.out]; rfl, Below.refl _ _⟩
  · have HQ := Hd.mk (show lineS n = ofL (hexL n) ++ ⟨#[13, 10]⟩ by unfold lineS; rw [if_neg hn])
    have hsz : (ofL (hexL n)).size ≤ 20 := by rw [ofL_size]; exact hexL_len n
    have hn2 : 0 ≤ n := by omega
    go_enter Try.func49, Try.ntmps49
    go_wp2_with fail
    refine (rhextext_any _ _ h0 h1).mono ?_
    rintro e w1 ⟨rfl, hb1⟩
    go_wp2_with fail
    go_ret
    exact ⟨by rw [HQ.out]; rfl, hb1⟩

set_option maxRecDepth 100000 in
set_option maxHeartbeats 4000000 in
theorem rsizes_any (n each : Int) (w : World) (h0 : -9223372036854775808 ≤ n) (h1 : n ≤ 9223372036854775807) (h2 : -9223372036854775808 ≤ each) (h3 : each ≤ 9223372036854775807) :
    Calls Try.prog 52 #[.int .i64 n, .int .i64 each] w fun e w' => ∃ v, e = .returned v ∧ w'.ownsRow w.heap.size 3 1 v (sizesL n each).length (iv (sizesL n each)) ∧ Below w.heap.size w w' := by
  by_cases hbad : n < 1 ∨ 1048576 < n ∨ each < 1
  · have HQ := Hd.mk (show sizesL n each = [] by unfold sizesL; rw [if_pos hbad])
    have hway : n < 1 ∨ (1 ≤ n ∧ 1048576 < n) ∨ (1 ≤ n ∧ n ≤ 1048576 ∧ each < 1) := by omega
    clear hbad
    rcases hway with hh | ⟨ha, hh⟩ | ⟨ha, hb, hh⟩
    all_goals
      go_enter Try.func52, Try.ntmps52
      go_wp2_with fail
      go_ret
      exact ⟨_, rfl, by rw [HQ.out]; exact World.ownsRow_made _ _ 0 (Nat.le_refl _) (by unfold maxLen; omega) rfl, (Below.refl _ _).alloc (Nat.le_refl _) _⟩
  · obtain ⟨N, rfl⟩ : ∃ N : Nat, n = N := ⟨n.toNat, by omega⟩
    obtain ⟨E, rfl⟩ : ∃ E : Nat, each = E := ⟨each.toNat, by omega⟩
    have hN1 : 1 ≤ N := by omega
    have hN2 : N ≤ 1048576 := by omega
    have hE1 : 1 ≤ E := by omega
    have HQ := Hd.mk (show sizesL (N : Int) (E : Int) = szL E (N + 1) N by unfold sizesL; rw [if_neg hbad]; simp)
    clear hbad
    go_enter Try.func52, Try.ntmps52
    go_wp2_with fail
    go_loopw [0, 5] (fun t v wr => ∃ (m : Nat) (l : List Int), t = .int .i64 m ∧ m + l.length ≤ N ∧ wr.ownsRow w.heap.size 3 1 v l.length (iv l) ∧ Below w.heap.size w wr ∧ szL E (N + 1) N = l ++ (if m = 0 then [] else szL E (N + 1) m)) (fun t _ _ => (intOf t).toNat)
    case atStart => exact ⟨N, [], rfl, by simp, World.ownsRow_made _ _ 0 (Nat.le_refl _) (by unfold maxLen; omega) rfl, (Below.refl _ _).alloc (Nat.le_refl _) _, by rw [if_neg (by omega)]; rfl⟩
    case round =>
      obtain ⟨m, l, rfl, hm2, hown, hbel, hsz⟩ := hrel
      have HB := Hd.mk hbel
      have HS := Hd.mk hsz
      have hw := hbel.size
      clear hbel hsz
      by_cases hm0 : m = 0
      · subst hm0
        have HO := Hd.mk hown
        clear hown
        go_wp2_with fail
        go_ret
        exact ⟨_, rfl, by rw [HQ.out, HS.out]; simpa using HO.out, HB.out⟩
      · have hm1 : 0 < m := by omega
        have HM0 := Hd.mk hm0
        clear hm0
        by_cases hlt : E < m
        · have HST := Hd.mk (show szL E (N + 1) m = (E : Int) :: szL E (N + 1) (m - E) by
            conv => lhs; unfold szL
            rw [if_pos hlt, szL_more E hE1 N (N + 1) (m - E) (by omega) (by omega)])
          go_wp2_with (at_builtin; refine app_int rfl _ _ _ _ rfl Try.underlying63 Try.infoI w.heap.size _ l rfl hown (E : Int) wr.heap.size rfl rfl (by omega) hw ?_; intro v' w' hown' hb' hg')
          go_roundw
          case rel => exact ⟨m - E, l ++ [(E : Int)], by go_num, by simp; omega, hown', HB.out.trans hb', by rw [HS.out, if_neg HM0.out, HST.out, if_neg (by omega)]; simp⟩
          case measure => simp [intOf]; omega
        · have HST := Hd.mk (show szL E (N + 1) m = [(m : Int)] by unfold szL; rw [if_neg hlt])
          go_wp2_with (at_builtin; refine app_int rfl _ _ _ _ rfl Try.underlying63 Try.infoI w.heap.size _ l rfl hown (m : Int) wr.heap.size rfl rfl (by omega) hw ?_; intro v' w' hown' hb' hg')
          go_roundw
          case rel => exact ⟨0, l ++ [(m : Int)], by first | rfl | go_num | (congr 1; omega), by simp; omega, hown', HB.out.trans hb', by rw [HS.out, if_neg HM0.out, HST.out, if_pos rfl]; simp⟩
          case measure => simp [intOf]; omega

theorem sizesL_len (n each : Int) (h : n ≤ 2000 ∨ 1048576 < n) : (sizesL n each).length ≤ 10000000 := by
  unfold sizesL
  split
  · simp
  · rename_i hb
    have := szL_len each.toNat (by omega) (n.toNat + 1) n.toNat (by omega)
    omega

set_option maxRecDepth 100000 in
set_option maxHeartbeats 4000000 in
theorem csizes_walk (n each : Int) (w : World) (wn : (Lit.int .i64 n).wf = true) (we : (Lit.int .i64 each).wf = true) :
    Calls Try.prog 13 #[.int .i64 n, .int .i64 each] w fun e w' => e = .returned (.bool true) ∧ Below w.heap.size w w' := by
  obtain ⟨n0, n1⟩ := bounds_i64 wn
  obtain ⟨e0, e1⟩ := bounds_i64 we
  clear wn we
  by_cases hbad : 2000 < n ∧ n ≤ 1048576
  · obtain ⟨h, h'⟩ := hbad
    go_enter Try.func13, Try.ntmps13
    go_wp2_with fail
    refine (lives14_any _).mono ?_
    rintro e w3 ⟨rfl, hb3⟩
    go_wp2_with fail
    go_ret
    exact ⟨rfl, hb3⟩
  · have HLEN := Hd.mk (sizesL_len n each (by omega))
    rcases (show n ≤ 2000 ∨ (2000 < n ∧ 1048576 < n) by omega) with h | ⟨h, h'⟩
    all_goals
      clear hbad
      go_enter Try.func13, Try.ntmps13
      go_wp2_with fail
      refine (line_any _ _ n0 n1).mono ?_
      rintro e w1 ⟨rfl, hb1⟩
      go_wp2_with fail
      refine (rline_any _ _ n0 n1).mono ?_
      rintro e w2 ⟨rfl, hb2⟩
      have HB2 := Hd.mk (below_thn hb1 hb2)
      clear hb1 hb2
      go_wp2_with fail
      refine (sizes_any _ _ _ n0 n1 e0 e1).mono ?_
      rintro e w3 ⟨v3, rfl, ho3, hb3⟩
      have HO3 := Hd.mk (RdI.of_own ho3)
      have HB3 := Hd.mk (below_thn HB2.out hb3)
      clear ho3 hb3
      go_wp2_with fail
      refine (rsizes_any _ _ _ n0 n1 e0 e1).mono ?_
      rintro e w4 ⟨v4, rfl, ho4, hb4⟩
      have HO4 := Hd.mk (RdI.of_own ho4)
      have HO3' := Hd.mk (HO3.out.below hb4)
      have HB4 := Hd.mk (below_thn HB3.out hb4)
      clear ho4 hb4
      go_wp2_with fail
      refine (sameints_eq _ _ _ _ HO3'.out HO4.out HLEN.out).mono ?_
      rintro e w5 ⟨rfl, hb5⟩
      go_wp2_with fail
      refine (lives14_any _).mono ?_
      rintro e w6 ⟨rfl, hb6⟩
      go_wp2_with fail
      go_ret
      exact ⟨rfl, below_thn (below_thn HB4.out hb5) hb6⟩
end Go.Proofs.Ytjbadcfhhcmnoaa
