/- Numbers as the document writes them, to the base ten: Digits, Text, Pad (layer 2). -/
import Derived.Test.YtcbfhlnnfnpkdaaGreatDoorTxt
import Derived.Test.YtcbfhlnnfnpkdaaGreatDoorGb
namespace Go.Proofs.YtcbfhlnnfnpkdaaGreatDoor
open Go.RowKit
set_option linter.unusedVariables false
set_option linter.unusedSimpArgs false

def signsT : ByteArray := ⟨#[48, 49, 50, 51, 52, 53, 54, 55, 56, 57, 97, 98, 99, 100, 101, 102]⟩
theorem signsT_eq : (⟨#[48, 49, 50, 51, 52, 53, 54, 55, 56, 57, 97, 98, 99, 100, 101, 102]⟩ : ByteArray) = signsT := rfl
theorem signsT_size : signsT.size = 16 := rfl
theorem signsT_one : ∀ d, d < 16 → (signsT.extract d (d + 1)).data.toList = [sgn d] := by decide +kernel
theorem rem10 (m : Nat) (w : World) (hm : m < 9223372036854775809) : (binOp .rem 111 (.int .u64 (m : Int)) (.int .u64 10)).run Tryz.prog w = .ok (.int .u64 ((m % 10 : Nat) : Int)) w := by
  have d1 : ((m : Int).tmod 10) = ((m % 10 : Nat) : Int) := by rw [Int.tmod_eq_emod_of_nonneg (by omega)]; omega
  go_simp

set_option maxRecDepth 100000 in
set_option maxHeartbeats 4000000 in
theorem rdigits10 (n : Nat) (w : World) (hn : n < 9223372036854775809) :
    Calls Tryz.prog 128 #[.int .u64 n, .int .u64 10] w fun e w' => e = .returned (.string (ofL (wdig 10 1 n))) ∧ Below w.heap.size w w' := by
  go_enter Tryz.func128, Tryz.ntmps128
  go_wp2_with fail
  rw [signsT_eq]
  have hss := signsT_size
  go_loopw [0, 6] (fun t o wr => ∃ (m : Nat) (x : ByteArray), t = .int .u64 m ∧ o = .string x ∧ m < 9223372036854775809 ∧ x.size ≤ 20 ∧ m * 10 ^ x.size ≤ n ∧ (x.size = 0 ∨ 0 < m) ∧ wdig 10 1 n = wdigAux 10 1 (20 - x.size) m x.data.toList ∧ ∃ q, wr = w.drewN q) (fun t _ _ => (intOf t).toNat)
  case atStart => exact ⟨n, ⟨#[]⟩, rfl, rfl, hn, by decide, by simp [ByteArray.size], .inl rfl, rfl, 0, rfl⟩
  case round =>
    obtain ⟨m, x, rfl, rfl, hm, hx20, hpw, hpos, hwd, q, rfl⟩ := hrel
    have HPW := Kp.mk hpw
    have HPOS := Kp.mk hpos
    have HWD := Kp.mk hwd
    clear hpw hpos hwd
    have hroom : 0 < m → x.size < 20 := fun h => by
      rcases Nat.lt_or_ge x.size 20 with h1 | h1
      · exact h1
      · exact absurd (pow_room (by omega) HPW.out h (by omega) h1) id
    by_cases hge : 10 ≤ m
    · have hr := hroom (by omega)
      have hd : m % 10 < 10 := Nat.mod_lt _ (by omega)
      have hrem := fun w => rem10 m w hm
      have HDV := Kp.mk (show ((m : Int) / 10) = ((m / 10 : Nat) : Int) by omega)
      have HST := Kp.mk (show wdigAux 10 1 (20 - x.size) m x.data.toList = wdigAux 10 1 (20 - (x.size + 1)) (m / 10) (sgn (m % 10) :: x.data.toList) by
        rw [show 20 - x.size = (20 - (x.size + 1)) + 1 from by omega, wdigAux_step (.inl (by omega))])
      have HPS := Kp.mk (pow_step (b := 10) (k := x.size) (n := m) (n0 := n) (by omega) HPW.out)
      have HDIV := Kp.mk (Nat.div_pos hge (by omega : 0 < 10))
      obtain ⟨d, hdd⟩ : ∃ d, d = m % 10 := ⟨_, rfl⟩
      have HDD := Kp.mk hdd
      rw [← hdd] at hd
      simp only [← hdd] at hrem
      have HD := Kp.mk (signsT_one d (by omega))
      have HAP := Kp.mk (show (signsT.extract d (d + 1) ++ x).data.toList = sgn d :: x.data.toList by rw [cat_app, HD.out]; rfl)
      have hes : (signsT.extract d (d + 1)).size = 1 := by rw [ba_len HD.out]; rfl
      have b0 : (0 : Int) ≤ (d : Int) := by omega
      have b1 : (d : Int) + 1 ≤ 16 := by omega
      clear hdd
      go_wp2_with fail
      go_quiet (fail)
      go_wp2_with fail
      go_roundw
      case rel =>
        have hsz : (signsT.extract d (d + 1) ++ x).size = x.size + 1 := by rw [ba_len HAP.out, List.length_cons, ← ba_size]
        refine ⟨m / 10, signsT.extract d (d + 1) ++ x, by rw [← HDV.out], by rw [← HDD.out], by omega, by omega, by rw [hsz]; exact HPS.out, .inr HDIV.out, by rw [HWD.out, HST.out, hsz, HAP.out, HDD.out], _, rfl⟩
      case measure => simp [intOf]; omega
    · have hm16 : m < 10 := by omega
      have HD := Kp.mk (signsT_one m (by omega))
      have HAP := Kp.mk (show (signsT.extract m (m + 1) ++ x).data.toList = sgn m :: x.data.toList by rw [cat_app, HD.out]; rfl)
      have hes : (signsT.extract m (m + 1)).size = 1 := by rw [ba_len HD.out]; rfl
      have HFIN := Kp.mk (show ofL (wdig 10 1 n) = signsT.extract m (m + 1) ++ x by
        refine (ba_eq _ _ ?_).symm
        rw [HAP.out, HWD.out]
        have hr : x.size < 20 := by
          rcases HPOS.out with h | h
          · omega
          · exact hroom h
        rw [show 20 - x.size = (20 - (x.size + 1)) + 1 from by omega]
        rw [wdigAux_step (by
          rcases HPOS.out with h | h
          · right; rw [← ba_size]; omega
          · left; exact h), Nat.mod_eq_of_lt hm16, Nat.div_eq_of_lt hm16, wdigAux_stop (by simp)])
      have b0 : (0 : Int) ≤ (m : Int) := by omega
      have b1 : (m : Int) + 1 ≤ 16 := by omega
      go_wp2_with fail
      go_ret
      exact ⟨by rw [HFIN.out]; rfl, gdrewN _ _⟩
set_option maxHeartbeats 400000 in
theorem rtext_any (n : Int) (w : World) (h0 : -9223372036854775808 ≤ n) (h1 : n ≤ 9223372036854775807) :
    Calls Tryz.prog 118 #[.int .i64 n] w fun e w' => e = .returned (.string (ofL (textL n))) ∧ Below w.heap.size w w' := by
  by_cases hn : n < 0
  · have HT := Kp.mk (show ⟨#[45]⟩ ++ ofL (wdig 10 1 (-n).toNat) = ofL (textL n) by
      unfold textL; rw [if_pos hn]
      exact ba_ext (by simp [ofL]))
    have hl : (ofL (wdig 10 1 (-n).toNat)).size ≤ 20 := by rw [ofL_size]; exact wdig_len 10 1 _
    go_enter Tryz.func118, Tryz.ntmps118
    go_wp2_with fail
    rw [show (-(n + 1) + 1 : Int) = (((-n).toNat : Nat) : Int) from by omega]
    refine (rdigits10 _ _ (by omega)).mono ?_
    rintro e w1 ⟨rfl, hb1⟩
    go_wp2_with fail
    go_ret
    exact ⟨ret_str HT.out, hb1⟩
  · obtain ⟨m, rfl⟩ := Int.eq_ofNat_of_zero_le (show 0 ≤ n by omega)
    have HT := Kp.mk (show ofL (wdig 10 1 m) = ofL (textL m) by unfold textL; rw [if_neg hn, Int.toNat_natCast])
    go_enter Tryz.func118, Tryz.ntmps118
    go_wp2_with fail
    refine (rdigits10 _ _ (by omega)).mono ?_
    rintro e w1 ⟨rfl, hb1⟩
    go_wp2_with fail
    go_ret
    exact ⟨ret_str HT.out, hb1⟩
/-- More digits: noughts ahead. -/
theorem wdigAux_wide (W : Nat) (hW : W ≤ 20) : ∀ (f n : Nat) (acc : List UInt8), f + acc.length = 20 → wdigAux 10 W f n acc = List.replicate (W - (wdigAux 10 0 f n acc).length) 48 ++ wdigAux 10 0 f n acc
  | 0, n, acc, h => by
    have h1 : acc.length = 20 := by omega
    have h2 : W - acc.length = 0 := by omega
    show acc = List.replicate (W - acc.length) 48 ++ acc
    rw [h2]; rfl
  | f + 1, n, acc, h => by
    by_cases hn : 0 < n
    · rw [wdigAux_step (.inl hn), wdigAux_step (.inl hn)]
      exact wdigAux_wide W hW f _ _ (by simp; omega)
    · have h0 : n = 0 := by omega
      subst h0
      rw [wdigAux_stop (wide := 0) (by omega)]
      by_cases hw : acc.length < W
      · rw [wdigAux_step (.inr hw)]
        have ih := wdigAux_wide W hW f (0 / 10) (sgn (0 % 10) :: acc) (by simp; omega)
        rw [wdigAux_stop (wide := 0) (by simp)] at ih
        rw [ih]
        have hs : sgn (0 % 10) = 48 := rfl
        rw [hs, List.length_cons, show W - acc.length = (W - (acc.length + 1)) + 1 from by omega, List.replicate_succ', List.append_assoc]
        rfl
      · rw [wdigAux_stop (by omega), show W - acc.length = 0 from by omega]
        rfl
theorem wdig_wide (W n : Nat) (h1 : 1 ≤ W) (hW : W ≤ 20) : wdig 10 W n = List.replicate (W - (wdig 10 1 n).length) 48 ++ wdig 10 1 n := by
  have a := wdigAux_wide W hW 20 n [] rfl
  have b := wdigAux_wide 1 (by omega) 20 n [] rfl
  unfold wdig
  rw [a, b]
  generalize wdigAux 10 0 20 n [] = D
  rw [List.length_append, List.length_replicate, ← List.append_assoc, List.replicate_append_replicate]
  rw [show W - (1 - D.length + D.length) + (1 - D.length) = W - D.length from by omega]
set_option maxRecDepth 100000 in
set_option maxHeartbeats 1000000 in
theorem rpad3_any (n : Int) (w : World) (h0 : -9223372036854775808 ≤ n) (h1 : n ≤ 9223372036854775807) :
    Calls Tryz.prog 89 #[.int .i64 n, .int .i64 3] w fun e w' => e = .returned (.string (ofL (padL n 3))) ∧ Below w.heap.size w w' := by
  by_cases hn : n < 0
  · have HT := Kp.mk (show padL n 3 = textL n by unfold padL; rw [if_pos hn])
    have hq : ¬ 0 ≤ n := by omega
    go_enter Tryz.func89, Tryz.ntmps89
    go_wp2_with fail
    refine (rtext_any _ _ h0 h1).mono ?_
    rintro e w1 ⟨rfl, hb1⟩
    go_wp2_with fail
    go_loopw [5] (fun s wr => s = .string (ofL (textL n)) ∧ wr = w1) (fun s _ => 0)
    case atStart => exact ⟨rfl, rfl⟩
    case round =>
      obtain ⟨rfl, rfl⟩ := hrel
      go_wp2_with fail
      go_ret
      exact ⟨by rw [HT.out]; rfl, hb1⟩
  · obtain ⟨m, rfl⟩ := Int.eq_ofNat_of_zero_le (show 0 ≤ n by omega)
    have HT := Kp.mk (show ofL (padL m 3) = ofL (List.replicate (3 - (textL m).length) 48 ++ textL m) by
      unfold padL textL
      rw [if_neg hn, if_neg hn, Int.toNat_natCast]
      exact congrArg ofL (wdig_wide 3 m (by omega) (by omega)))
    have hl := textL_len m
    have hq : (0 : Int) ≤ (m : Int) := by omega
    have hs0 : (ofL (textL m)).size = (textL m).length := ofL_size _
    have HX0 := Kp.mk (show (ofL (textL m)).data.toList = List.replicate 0 48 ++ textL m by simp [ofL])
    go_enter Tryz.func89, Tryz.ntmps89
    go_wp2_with fail
    refine (rtext_any _ _ h0 h1).mono ?_
    rintro e w1 ⟨rfl, hb1⟩
    have HB1 := Kp.mk hb1
    clear hb1 hn
    generalize ofL (textL m) = x0 at *
    go_wp2_with fail
    go_loopw [5] (fun s wr => ∃ (j : Nat) (x : ByteArray), s = .string x ∧ x.data.toList = List.replicate j 48 ++ textL m ∧ x.size = j + (textL m).length ∧ (j = 0 ∨ j + (textL m).length ≤ 3) ∧ wr = w1) (fun s _ => 3 - szOf s)
    case atStart => exact ⟨0, x0, rfl, HX0.out, by omega, .inl rfl, rfl⟩
    case round =>
      obtain ⟨j, x, rfl, hx, hsz, hj, rfl⟩ := hrel
      have HX := Kp.mk hx
      clear hx
      have hxs : x.size ≤ 30 := by omega
      by_cases hlt : x.size < 3
      · have q1 : (x.size : Int) < 3 := by omega
        have q2 : (x.size : Int) < 20 := by omega
        have HA := Kp.mk (show ((⟨#[48]⟩ : ByteArray) ++ x).data.toList = List.replicate (j + 1) 48 ++ textL m by rw [cat_app, HX.out, List.replicate_succ]; rfl)
        have HZ := Kp.mk (show ((⟨#[48]⟩ : ByteArray) ++ x).size = (j + 1) + (textL m).length by rw [ba_len HA.out]; simp)
        go_wp2_with fail
        go_roundw
        case rel => exact ⟨j + 1, _, rfl, HA.out, HZ.out, by omega, by first | trivial | rfl⟩
        case measure =>
          have hz := HZ.out
          simp only [szOf]
          omega
      · have q1 : ¬ (x.size : Int) < 3 := by omega
        have HF := Kp.mk (show ofL (padL m 3) = x by
          rw [HT.out]
          have hj3 : j = 3 - (textL m).length := by omega
          rw [← hj3, ← HX.out]
          rfl)
        go_wp2_with fail
        go_ret
        exact ⟨by rw [HF.out]; rfl, HB1.out⟩
end Go.Proofs.YtcbfhlnnfnpkdaaGreatDoor
