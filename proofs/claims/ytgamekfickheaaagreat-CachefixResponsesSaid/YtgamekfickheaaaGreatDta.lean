/- Dates of fields (layer 6), plain: names, what is written; Pad as the document has it. -/
import Derived.Test.YtgamekfickheaaaGreatRta
import Derived.Test.YtgamekfickheaaaGreatCie
namespace Go.Proofs.YtgamekfickheaaaGreat
open Go.RowKit
set_option linter.unusedVariables false
set_option linter.unusedSimpArgs false

/-- The weekdays, the months. -/
def wdS : Nat → ByteArray
  | 0 => ⟨#[83, 117, 110, 100, 97, 121]⟩
  | 1 => ⟨#[77, 111, 110, 100, 97, 121]⟩
  | 2 => ⟨#[84, 117, 101, 115, 100, 97, 121]⟩
  | 3 => ⟨#[87, 101, 100, 110, 101, 115, 100, 97, 121]⟩
  | 4 => ⟨#[84, 104, 117, 114, 115, 100, 97, 121]⟩
  | 5 => ⟨#[70, 114, 105, 100, 97, 121]⟩
  | 6 => ⟨#[83, 97, 116, 117, 114, 100, 97, 121]⟩
  | _ => ⟨#[]⟩
def moS : Nat → ByteArray
  | 0 => ⟨#[74, 97, 110]⟩
  | 1 => ⟨#[70, 101, 98]⟩
  | 2 => ⟨#[77, 97, 114]⟩
  | 3 => ⟨#[65, 112, 114]⟩
  | 4 => ⟨#[77, 97, 121]⟩
  | 5 => ⟨#[74, 117, 110]⟩
  | 6 => ⟨#[74, 117, 108]⟩
  | 7 => ⟨#[65, 117, 103]⟩
  | 8 => ⟨#[83, 101, 112]⟩
  | 9 => ⟨#[79, 99, 116]⟩
  | 10 => ⟨#[78, 111, 118]⟩
  | 11 => ⟨#[68, 101, 99]⟩
  | _ => ⟨#[]⟩
theorem wdS_size : ∀ i, i < 7 → 6 ≤ (wdS i).size ∧ (wdS i).size ≤ 9 := by decide +kernel
theorem moS_size : ∀ i, i < 12 → (moS i).size = 3 := by decide +kernel
/-- The first three octets of a weekday. -/
def wd3 (i : Nat) : List UInt8 := (wdS i).data.toList.take 3
theorem wd3_len : ∀ i, i < 7 → (wd3 i).length = 3 := by decide +kernel
theorem wd3_ext (i : Nat) : (wdS i).extract 0 3 = ofL (wd3 i) := by
  refine ba_eq _ _ ?_
  rw [Lib.extract_data]
  unfold wd3
  simp
noncomputable abbrev dyY (n : Int) : Int := (dayOf (n / 86400)).1
noncomputable abbrev dyM (n : Int) : Int := (dayOf (n / 86400)).2.1
noncomputable abbrev dyD (n : Int) : Int := (dayOf (n / 86400)).2.2
noncomputable def wkN (n : Int) : Nat := (weekI (n / 86400)).toNat
theorem wkN_lt (n : Int) : wkN n < 7 := by unfold wkN weekI; omega
theorem wkN_eq (n : Int) : weekI (n / 86400) = (wkN n : Int) := by unfold wkN weekI; omega
/-- What stands for the sign i of the pattern "w, d b y h:i:s GMT". -/
noncomputable def pcL (n : Int) : Nat → List UInt8
  | 0 => wd3 (wkN n)
  | 1 => [44]
  | 2 => [32]
  | 3 => padL (dyD n) 2
  | 4 => [32]
  | 5 => (moS (dyM n - 1).toNat).data.toList
  | 6 => [32]
  | 7 => padL (dyY n) 4
  | 8 => [32]
  | 9 => padL (dH n) 2
  | 10 => [58]
  | 11 => padL (dM n) 2
  | 12 => [58]
  | 13 => padL (dS n) 2
  | 14 => [32]
  | 15 => [71]
  | 16 => [77]
  | 17 => [84]
  | _ => []
noncomputable def pcAcc (n : Int) : Nat → List UInt8
  | 0 => []
  | k + 1 => pcAcc n k ++ pcL n k
/-- P6.2. -/
noncomputable def prtB (n : Int) : ByteArray := if placeB (n / 86400) then ofL (pcAcc n 18) else ⟨#[]⟩
theorem padL_len (n : Int) (w : Int) : (padL n w).length ≤ 21 := by
  unfold padL
  split
  · exact textL_len n
  · have := wdig_len 10 (max 1 (min w 20)).toNat n.toNat; omega
theorem moS_le (i : Nat) : (moS i).size ≤ 3 := by
  by_cases h : i < 12
  · have := moS_size i h; omega
  · have e : moS i = ⟨#[]⟩ := by
      unfold moS
      split <;> first | omega | rfl
    rw [e]; decide
theorem pcL_len (n : Int) (k : Nat) : (pcL n k).length ≤ 21 := by
  unfold pcL
  split <;> first | exact padL_len _ _ | (have := moS_le (dyM n - 1).toNat; rw [← ba_size']; omega) | (have := wd3_len _ (wkN_lt n); omega) | (simp; done) | skip
theorem pcAcc_len (n : Int) : ∀ k, (pcAcc n k).length ≤ 21 * k
  | 0 => by simp [pcAcc]
  | k + 1 => by have := pcAcc_len n k; have := pcL_len n k; simp only [pcAcc, List.length_append]; omega
def fixP : ByteArray := ⟨#[119, 44, 32, 100, 32, 98, 32, 121, 32, 104, 58, 105, 58, 115, 32, 71, 77, 84]⟩
theorem fixP_eq : (⟨#[119, 44, 32, 100, 32, 98, 32, 121, 32, 104, 58, 105, 58, 115, 32, 71, 77, 84]⟩ : ByteArray) = fixP := rfl
theorem fixP_size : fixP.size = 18 := rfl
theorem fixP_low : ∀ k, k < 18 → bt fixP k < 128 := by decide +kernel
set_option maxRecDepth 100000 in
set_option maxHeartbeats 1000000 in
theorem rpadW_any (n : Int) (W : Nat) (w : World) (hW0 : 1 ≤ W) (hW : W ≤ 20) (h0 : -9223372036854775808 ≤ n) (h1 : n ≤ 9223372036854775807) :
    Calls Tryz.prog 108 #[.int .i64 n, .int .i64 (W : Int)] w fun e w' => e = .returned (.string (ofL (padL n W))) ∧ Below w.heap.size w w' := by
  by_cases hn : n < 0
  · have HT := Kp.mk (show padL n W = textL n by unfold padL; rw [if_pos hn])
    have hq : ¬ 0 ≤ n := by omega
    go_enter Tryz.func108, Tryz.ntmps108
    go_wp2_with fail
    refine (rtext_any _ _ h0 h1).mono ?_
    rintro e w1 ⟨rfl, hb1⟩
    go_wp2_with fail
    go_loopw [5] (fun s wr => s = .string (ofL (textL n)) ∧ wr = w1) (fun s _ => 0)
    case atStart => exact ⟨rfl, rfl⟩
    case round =>
      obtain ⟨rfl, rfl⟩ := hrel
      go_wp2_with fail
      go_ret
      exact ⟨by rw [HT.out]; rfl, hb1⟩
  · obtain ⟨m, rfl⟩ := Int.eq_ofNat_of_zero_le (show 0 ≤ n by omega)
    have HT := Kp.mk (show ofL (padL m W) = ofL (List.replicate (W - (textL m).length) 48 ++ textL m) by
      unfold padL textL
      rw [if_neg hn, if_neg hn, Int.toNat_natCast, show (max 1 (min (W : Int) 20)).toNat = W from by omega]
      exact congrArg ofL (wdig_wide W m hW0 hW))
    have hl := textL_len m
    have hq : (0 : Int) ≤ (m : Int) := by omega
    have hs0 : (ofL (textL m)).size = (textL m).length := ofL_size _
    have HX0 := Kp.mk (show (ofL (textL m)).data.toList = List.replicate 0 48 ++ textL m by simp [ofL])
    go_enter Tryz.func108, Tryz.ntmps108
    go_wp2_with fail
    refine (rtext_any _ _ h0 h1).mono ?_
    rintro e w1 ⟨rfl, hb1⟩
    have HB1 := Kp.mk hb1
    clear hb1 hn
    generalize ofL (textL m) = x0 at *
    go_wp2_with fail
    go_loopw [5] (fun s wr => ∃ (j : Nat) (x : ByteArray), s = .string x ∧ x.data.toList = List.replicate j 48 ++ textL m ∧ x.size = j + (textL m).length ∧ (j = 0 ∨ j + (textL m).length ≤ W) ∧ wr = w1) (fun s _ => W - szOf s)
    case atStart => exact ⟨0, x0, rfl, HX0.out, by omega, .inl rfl, rfl⟩
    case round =>
      obtain ⟨j, x, rfl, hx, hsz, hj, rfl⟩ := hrel
      have HX := Kp.mk hx
      clear hx
      have hxs : x.size ≤ 30 := by omega
      by_cases hlt : x.size < W
      · have q1 : (x.size : Int) < (W : Int) := by omega
        have q2 : (x.size : Int) < 20 := by omega
        have HA := Kp.mk (show ((⟨#[48]⟩ : ByteArray) ++ x).data.toList = List.replicate (j + 1) 48 ++ textL m by rw [cat_app, HX.out, List.replicate_succ]; rfl)
        have HZ := Kp.mk (show ((⟨#[48]⟩ : ByteArray) ++ x).size = (j + 1) + (textL m).length by rw [ba_len HA.out]; simp)
        go_wp2_with fail
        go_roundw
        case rel => exact ⟨j + 1, _, rfl, HA.out, HZ.out, by omega, by first | trivial | rfl⟩
        case measure =>
          have hz := HZ.out
          simp only [szOf]
          omega
      · have q1 : ¬ (x.size : Int) < (W : Int) := by omega
        have HF := Kp.mk (show ofL (padL m W) = x by
          rw [HT.out]
          have hj3 : j = W - (textL m).length := by omega
          rw [← hj3, ← HX.out]
          rfl)
        go_wp2_with fail
        go_ret
        exact ⟨by rw [HF.out]; rfl, HB1.out⟩
end Go.Proofs.YtgamekfickheaaaGreat
