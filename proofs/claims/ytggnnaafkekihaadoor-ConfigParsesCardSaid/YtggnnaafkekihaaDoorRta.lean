/- Numbers as the document writes them, to the base ten: Digits, Text, Pad (layer 2). -/
import Derived.Test.YtggnnaafkekihaaDoorTxt
import Derived.Test.YtggnnaafkekihaaDoorGb
namespace Go.Proofs.YtggnnaafkekihaaDoor
open Go.RowKit
set_option linter.unusedVariables false
set_option linter.unusedSimpArgs false

def signsT : ByteArray := ⟨#[48, 49, 50, 51, 52, 53, 54, 55, 56, 57, 97, 98, 99, 100, 101, 102]⟩
theorem signsT_eq : (⟨#[48, 49, 50, 51, 52, 53, 54, 55, 56, 57, 97, 98, 99, 100, 101, 102]⟩ : ByteArray) = signsT := rfl
theorem signsT_size : signsT.size = 16 := rfl
theorem signsT_one : ∀ d, d < 16 → (signsT.extract d (d + 1)).data.toList = [sgn d] := by decide +kernel
theorem rem10 (m : Nat) (w : World) (hm : m < 9223372036854775809) : (binOp .rem 48 (.int .u64 (m : Int)) (.int .u64 10)).run Tryd.prog w = .ok (.int .u64 ((m % 10 : Nat) : Int)) w := by
  have d1 : ((m : Int).tmod 10) = ((m % 10 : Nat) : Int) := by rw [Int.tmod_eq_emod_of_nonneg (by omega)]; omega
  go_simp

set_option maxRecDepth 100000 in
set_option maxHeartbeats 4000000 in
theorem rdigits10 (n : Nat) (w : World) (hn : n < 9223372036854775809) :
    Calls Tryd.prog 40 #[.int .u64 n, .int .u64 10] w fun e w' => e = .returned (.string (ofL (wdig 10 1 n))) ∧ Below w.heap.size w w' := by
  go_enter Tryd.func40, Tryd.ntmps40
  go_wp2_with fail
  rw [signsT_eq]
  have hss := signsT_size
  go_loopw [0, 6] (fun t o wr => ∃ (m : Nat) (x : ByteArray), t = .int .u64 m ∧ o = .string x ∧ m < 9223372036854775809 ∧ x.size ≤ 20 ∧ m * 10 ^ x.size ≤ n ∧ (x.size = 0 ∨ 0 < m) ∧ wdig 10 1 n = wdigAux 10 1 (20 - x.size) m x.data.toList ∧ ∃ q, wr = w.drewN q) (fun t _ _ => (intOf t).toNat)
  case atStart => exact ⟨n, ⟨#[]⟩, rfl, rfl, hn, by decide, by simp [ByteArray.size], .inl rfl, rfl, 0, rfl⟩
  case round =>
    obtain ⟨m, x, rfl, rfl, hm, hx20, hpw, hpos, hwd, q, rfl⟩ := hrel
    have HPW := Kp.mk hpw
    have HPOS := Kp.mk hpos
    have HWD := Kp.mk hwd
    clear hpw hpos hwd
    have hroom : 0 < m → x.size < 20 := fun h => by
      rcases Nat.lt_or_ge x.size 20 with h1 | h1
      · exact h1
      · exact absurd (pow_room (by omega) HPW.out h (by omega) h1) id
    by_cases hge : 10 ≤ m
    · have hr := hroom (by omega)
      have hd : m % 10 < 10 := Nat.mod_lt _ (by omega)
      have hrem := fun w => rem10 m w hm
      have HDV := Kp.mk (show ((m : Int) / 10) = ((m / 10 : Nat) : Int) by omega)
      have HST := Kp.mk (show wdigAux 10 1 (20 - x.size) m x.data.toList = wdigAux 10 1 (20 - (x.size + 1)) (m / 10) (sgn (m % 10) :: x.data.toList) by
        rw [show 20 - x.size = (20 - (x.size + 1)) + 1 from by omega, wdigAux_step (.inl (by omega))])
      have HPS := Kp.mk (pow_step (b := 10) (k := x.size) (n := m) (n0 := n) (by omega) HPW.out)
      have HDIV := Kp.mk (Nat.div_pos hge (by omega : 0 < 10))
      obtain ⟨d, hdd⟩ : ∃ d, d = m % 10 := ⟨_, rfl⟩
      have HDD := Kp.mk hdd
      rw [← hdd] at hd
      simp only [← hdd] at hrem
      have HD := Kp.mk (signsT_one d (by omega))
      have HAP := Kp.mk (show (signsT.extract d (d + 1) ++ x).data.toList = sgn d :: x.data.toList by rw [cat_app, HD.out]; rfl)
      have hes : (signsT.extract d (d + 1)).size = 1 := by rw [ba_len HD.out]; rfl
      have b0 : (0 : Int) ≤ (d : Int) := by omega
      have b1 : (d : Int) + 1 ≤ 16 := by omega
      clear hdd
      go_wp2_with fail
      go_quiet (fail)
      go_wp2_with fail
      go_roundw
      case rel =>
        have hsz : (signsT.extract d (d + 1) ++ x).size = x.size + 1 := by rw [ba_len HAP.out, List.length_cons, ← ba_size]
        refine ⟨m / 10, signsT.extract d (d + 1) ++ x, by rw [← HDV.out], by rw [← HDD.out], by omega, by omega, by rw [hsz]; exact HPS.out, .inr HDIV.out, by rw [HWD.out, HST.out, hsz, HAP.out, HDD.out], _, rfl⟩
      case measure => simp [intOf]; omega
    · have hm16 : m < 10 := by omega
      have HD := Kp.mk (signsT_one m (by omega))
      have HAP := Kp.mk (show (signsT.extract m (m + 1) ++ x).data.toList = sgn m :: x.data.toList by rw [cat_app, HD.out]; rfl)
      have hes : (signsT.extract m (m + 1)).size = 1 := by rw [ba_len HD.out]; rfl
      have HFIN := Kp.mk (show ofL (wdig 10 1 n) = signsT.extract m (m + 1) ++ x by
        refine (ba_eq _ _ ?_).symm
        rw [HAP.out, HWD.out]
        have hr : x.size < 20 := by
          rcases HPOS.out with h | h
          · omega
          · exact hroom h
        rw [show 20 - x.size = (20 - (x.size + 1)) + 1 from by omega]
        rw [wdigAux_step (by
          rcases HPOS.out with h | h
          · right; rw [← ba_size]; omega
          · left; exact h), Nat.mod_eq_of_lt hm16, Nat.div_eq_of_lt hm16, wdigAux_stop (by simp)])
      have b0 : (0 : Int) ≤ (m : Int) := by omega
      have b1 : (m : Int) + 1 ≤ 16 := by omega
      go_wp2_with fail
      go_ret
      exact ⟨by rw [HFIN.out]; rfl, gdrewN _ _⟩
set_option maxHeartbeats 400000 in
theorem rtext_any (n : Int) (w : World) (h0 : -9223372036854775808 ≤ n) (h1 : n ≤ 9223372036854775807) :
    Calls Tryd.prog 24 #[.int .i64 n] w fun e w' => e = .returned (.string (ofL (textL n))) ∧ Below w.heap.size w w' := by
  by_cases hn : n < 0
  · have HT := Kp.mk (show ⟨#[45]⟩ ++ ofL (wdig 10 1 (-n).toNat) = ofL (textL n) by
      unfold textL; rw [if_pos hn]
      exact ba_ext (by simp [ofL]))
    have hl : (ofL (wdig 10 1 (-n).toNat)).size ≤ 20 := by rw [ofL_size]; exact wdig_len 10 1 _
    go_enter Tryd.func24, Tryd.ntmps24
    go_wp2_with fail
    rw [show (-(n + 1) + 1 : Int) = (((-n).toNat : Nat) : Int) from by omega]
    refine (rdigits10 _ _ (by omega)).mono ?_
    rintro e w1 ⟨rfl, hb1⟩
    go_wp2_with fail
    go_ret
    exact ⟨ret_str HT.out, hb1⟩
  · obtain ⟨m, rfl⟩ := Int.eq_ofNat_of_zero_le (show 0 ≤ n by omega)
    have HT := Kp.mk (show ofL (wdig 10 1 m) = ofL (textL m) by unfold textL; rw [if_neg hn, Int.toNat_natCast])
    go_enter Tryd.func24, Tryd.ntmps24
    go_wp2_with fail
    refine (rdigits10 _ _ (by omega)).mono ?_
    rintro e w1 ⟨rfl, hb1⟩
    go_wp2_with fail
    go_ret
    exact ⟨ret_str HT.out, hb1⟩
/-- More digits: noughts ahead. -/
theorem wdigAux_wide (W : Nat) (hW : W ≤ 20) : ∀ (f n : Nat) (acc : List UInt8), f + acc.length = 20 → wdigAux 10 W f n acc = List.replicate (W - (wdigAux 10 0 f n acc).length) 48 ++ wdigAux 10 0 f n acc
  | 0, n, acc, h => by
    have h1 : acc.length = 20 := by omega
    have h2 : W - acc.length = 0 := by omega
    show acc = List.replicate (W - acc.length) 48 ++ acc
    rw [h2]; rfl
  | f + 1, n, acc, h => by
    by_cases hn : 0 < n
    · rw [wdigAux_step (.inl hn), wdigAux_step (.inl hn)]
      exact wdigAux_wide W hW f _ _ (by simp; omega)
    · have h0 : n = 0 := by omega
      subst h0
      rw [wdigAux_stop (wide := 0) (by omega)]
      by_cases hw : acc.length < W
      · rw [wdigAux_step (.inr hw)]
        have ih := wdigAux_wide W hW f (0 / 10) (sgn (0 % 10) :: acc) (by simp; omega)
        rw [wdigAux_stop (wide := 0) (by simp)] at ih
        rw [ih]
        have hs : sgn (0 % 10) = 48 := rfl
        rw [hs, List.length_cons, show W - acc.length = (W - (acc.length + 1)) + 1 from by omega, List.replicate_succ', List.append_assoc]
        rfl
      · rw [wdigAux_stop (by omega), show W - acc.length = 0 from by omega]
        rfl
theorem wdig_wide (W n : Nat) (h1 : 1 ≤ W) (hW : W ≤ 20) : wdig 10 W n = List.replicate (W - (wdig 10 1 n).length) 48 ++ wdig 10 1 n := by
  have a := wdigAux_wide W hW 20 n [] rfl
  have b := wdigAux_wide 1 (by omega) 20 n [] rfl
  unfold wdig
  rw [a, b]
  generalize wdigAux 10 0 20 n [] = D
  rw [List.length_append, List.length_replicate, ← List.append_assoc, List.replicate_append_replicate]
  rw [show W - (1 - D.length + D.length) + (1 - D.length) = W - D.length from by omega]
end Go.Proofs.YtggnnaafkekihaaDoor
