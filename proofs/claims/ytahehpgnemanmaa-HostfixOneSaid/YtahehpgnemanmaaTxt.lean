/- Layer 2: the rest of the functions, and the document's examples. -/
import Derived.Test.YtahehpgnemanmaaWri
namespace Go.Proofs.Ytahehpgnemanmaa
open Go.RowKit
set_option linter.unusedVariables false
set_option linter.unusedSimpArgs false

theorem foldl_lin (b : Nat) : ∀ (l : List UInt8) (a : Nat), l.foldl (fun a c => a * b + digV c.toNat) a = a * b ^ l.length + valN b l
  | [], a => by simp [valN]
  | c :: l, a => by
    have e1 := foldl_lin b l (a * b + digV c.toNat)
    have e2 : valN b (c :: l) = (0 * b + digV c.toNat) * b ^ l.length + valN b l := by rw [valN, List.foldl_cons]; exact foldl_lin b l (0 * b + digV c.toNat)
    rw [List.foldl_cons, e1, e2, List.length_cons, Nat.pow_succ, Nat.add_mul, Nat.mul_comm (b ^ l.length) b, ← Nat.mul_assoc]
    simp only [Nat.zero_mul, Nat.zero_add]
    omega
theorem valN_cons (b : Nat) (c : UInt8) (l : List UInt8) : valN b (c :: l) = digV c.toNat * b ^ l.length + valN b l := by
  have := foldl_lin b l (0 * b + digV c.toNat)
  rw [valN, List.foldl_cons, this]
  simp

theorem wdigAux_len (b wide : Nat) : ∀ (f n : Nat) (acc : List UInt8), acc.length ≤ (wdigAux b wide f n acc).length
  | 0, n, acc => Nat.le_refl _
  | f + 1, n, acc => by
    rw [wdigAux]
    split
    · have := wdigAux_len b wide f (n / b) (sgn (n % b) :: acc)
      simp at this; omega
    · exact Nat.le_refl _
theorem wdigAux_val (b wide : Nat) (hb : 2 ≤ b) (hb2 : b ≤ 16) : ∀ (f n : Nat) (acc : List UInt8), n < b ^ f → valN b (wdigAux b wide f n acc) = n * b ^ acc.length + valN b acc
  | 0, n, acc, h => by
    have : n = 0 := by simpa using h
    subst this; simp [wdigAux]
  | f + 1, n, acc, h => by
    rw [wdigAux]
    split
    · have hlt : n / b < b ^ f := by
        rw [Nat.div_lt_iff_lt_mul (by omega)]
        rwa [Nat.pow_succ] at h
      rw [wdigAux_val b wide hb hb2 f (n / b) _ hlt, valN_cons, digV_sgn _ (by have := Nat.mod_lt n (show 0 < b by omega); omega), List.length_cons, Nat.pow_succ, Nat.mul_comm (b ^ acc.length) b, ← Nat.mul_assoc]
      have e : n = n / b * b + n % b := by have := Nat.div_add_mod n b; rw [Nat.mul_comm] at this; omega
      have e2 : n * b ^ acc.length = n / b * b * b ^ acc.length + n % b * b ^ acc.length := by rw [← Nat.add_mul, ← e]
      omega
    · have : n = 0 := by omega
      subst this; simp
theorem wdigAux_ok (b wide : Nat) (hb : 2 ≤ b) (hb2 : b ≤ 16) : ∀ (f n : Nat) (acc : List UInt8), (∀ c ∈ acc, digV c.toNat < b) → ∀ c ∈ wdigAux b wide f n acc, digV c.toNat < b
  | 0, n, acc, h => h
  | f + 1, n, acc, h => by
    rw [wdigAux]
    split
    · refine wdigAux_ok b wide hb hb2 f _ _ fun c hc => ?_
      rcases List.mem_cons.1 hc with rfl | hc
      · have := Nat.mod_lt n (show 0 < b by omega)
        rw [digV_sgn _ (by omega)]; exact this
      · exact h c hc
    · exact h

theorem wdig_val (b wide n : Nat) (hb : 10 ≤ b) (hb2 : b ≤ 16) (hn : n < 18446744073709551616) : valN b (wdig b wide n) = n := by
  have h1 : 10 ^ 20 ≤ b ^ 20 := Nat.pow_le_pow_left hb 20
  rw [wdig, wdigAux_val b wide (by omega) hb2 20 n [] (by omega)]
  simp [valN]
theorem wdig_ok (b wide n : Nat) (hb : 10 ≤ b) (hb2 : b ≤ 16) : ∀ c ∈ wdig b wide n, digV c.toNat < b := wdigAux_ok b wide (by omega) hb2 20 n [] (by simp)
theorem wdig_ne (b wide n : Nat) (hw : 1 ≤ wide) : wdig b wide n ≠ [] := by
  intro h
  have h1 := wdigAux_step (b := b) (wide := wide) (f := 19) (n := n) (acc := []) (.inr hw)
  have h2 := wdigAux_len b wide 19 (n / b) [sgn (n % b)]
  rw [← h1] at h2
  have h3 : wdigAux b wide (19 + 1) n [] = [] := h
  rw [h3] at h2
  simp at h2

theorem wdigAux_len2 (b wide : Nat) : ∀ (f n : Nat) (acc : List UInt8), (wdigAux b wide f n acc).length ≤ acc.length + f
  | 0, n, acc => Nat.le_refl _
  | f + 1, n, acc => by
    rw [wdigAux]
    split
    · have := wdigAux_len2 b wide f (n / b) (sgn (n % b) :: acc)
      simp at this; omega
    · omega
theorem wdig_len (b wide n : Nat) : (wdig b wide n).length ≤ 20 := by
  have := wdigAux_len2 b wide 20 n []
  simpa [wdig] using this

def ofL (l : List UInt8) : ByteArray := ⟨l.toArray⟩
def textL (n : Int) : List UInt8 := if n < 0 then 45 :: wdig 10 1 (-n).toNat else wdig 10 1 n.toNat
def hexL (n : Int) : List UInt8 := if n < 0 then [] else wdig 16 1 n.toNat
def padL (n wide : Int) : List UInt8 := if n < 0 then textL n else wdig 10 (max 1 (min wide 20)).toNat n.toNat
theorem ofL_size (l : List UInt8) : (ofL l).size = l.length := by simp [ofL, ba_size]
theorem textL_len (n : Int) : (textL n).length ≤ 21 := by
  unfold textL
  split
  · have := wdig_len 10 1 (-n).toNat; simp; omega
  · have := wdig_len 10 1 n.toNat; omega

theorem u64_neg {n : Int} (h0 : -9223372036854775808 ≤ n) (h : n < 0) : IntKind.u64.wrap (-IntKind.u64.wrap n) = (((-n).toNat : Nat) : Int) := by
  simp [IntKind.wrap, IntKind.signed, IntKind.bits]; omega

set_option maxHeartbeats 400000 in
theorem text_any (n : Int) (w : World) (h0 : -9223372036854775808 ≤ n) (h1 : n ≤ 9223372036854775807) :
    Calls Try.prog 41 #[.int .i64 n] w fun e w' => e = .returned (.string (ofL (textL n))) ∧ Below w.heap.size w w' := by
  by_cases hn : n < 0
  · have ht : textL n = 45 :: wdig 10 1 (-n).toNat := by unfold textL; rw [if_pos hn]
    rw [ht]
    clear ht
    go_enter Try.func41, Try.ntmps41
    go_wp2_with fail
    rw [u64_neg h0 hn]
    refine (write_10_any _ _ _ (by omega) (by omega) (by omega)).mono ?_
    rintro e w1 ⟨rfl, hb1⟩
    have hadd : ∀ l : List UInt8, (⟨#[45]⟩ : ByteArray) ++ ⟨l.toArray⟩ = ofL (45 :: l) := fun l => ba_ext (by simp [ofL])
    have hl := wdig_len 10 1 (-n).toNat
    have HA := Lib.hid hadd
    clear hadd
    go_wp2_with fail
    go_ret
    exact ⟨ret_str (HA.out _), hb1⟩
  · obtain ⟨m, rfl⟩ := Int.eq_ofNat_of_zero_le (show 0 ≤ n by omega)
    have ht : textL m = wdig 10 1 m := by unfold textL; rw [if_neg hn, Int.toNat_natCast]
    rw [ht]
    clear ht
    go_enter Try.func41, Try.ntmps41
    go_wp2_with fail
    refine (write_10_any _ _ _ (by omega) (by omega) (by omega)).mono ?_
    rintro e w1 ⟨rfl, hb1⟩
    go_wp2_with fail
    go_ret
    exact ⟨rfl, hb1⟩

set_option maxHeartbeats 400000 in
theorem dec_any (s : ByteArray) (most : Int) (w : World) (hs : s.size ≤ maxLen) (hm0 : -9223372036854775808 ≤ most) (hm1 : most ≤ 9223372036854775807) :
    Calls Try.prog 37 #[.string s, .int .i64 most] w fun e w' => e = .returned (.tuple #[.int .i64 (numV 10 s most), .int .i64 (numE 10 s most)]) ∧ Below w.heap.size w w' := by
  go_enter Try.func37, Try.ntmps37
  go_wp2_with fail
  refine (read_10_any _ _ _ hs hm0 hm1).mono ?_
  rintro e w1 ⟨rfl, hb1⟩
  go_wp2
  go_ret2
  exact ⟨rfl, hb1⟩

theorem ex2_hex : numV 16 ⟨#[49, 102]⟩ 100 = 31 ∧ numE 16 ⟨#[49, 102]⟩ 100 = 0 := by decide +kernel
theorem ex2_dec : numV 10 ⟨#[48, 48, 55]⟩ 6 = 0 ∧ numE 10 ⟨#[48, 48, 55]⟩ 6 = 5 := by decide +kernel
theorem ex2_pad : ofL (padL 7 2) = ⟨#[48, 55]⟩ := by decide +kernel
theorem ex2_hext : ofL (hexL 255) = ⟨#[102, 102]⟩ := by decide +kernel
theorem ex2_text : ofL (textL (-5)) = ⟨#[45, 53]⟩ := by decide +kernel

end Go.Proofs.Ytahehpgnemanmaa
