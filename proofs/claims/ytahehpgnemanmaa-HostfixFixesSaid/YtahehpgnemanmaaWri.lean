/- Layer 2: numbers written. -/
import Derived.Test.YtahehpgnemanmaaNum
namespace Go.Proofs.Ytahehpgnemanmaa
open Go.RowKit
set_option linter.unusedVariables false
set_option linter.unusedSimpArgs false

def sgn (d : Nat) : UInt8 := UInt8.ofNat (if d < 10 then 48 + d else 87 + d)
theorem sgn_toNat (d : Nat) (h : d < 16) : (sgn d).toNat = if d < 10 then 48 + d else 87 + d := by
  unfold sgn
  split <;> simp <;> omega
theorem digV_sgn (d : Nat) (h : d < 16) : digV (sgn d).toNat = d := by
  rw [sgn_toNat d h]
  split
  · unfold digV; rw [if_pos (by omega)]; omega
  · unfold digV; rw [if_neg (by omega), if_neg (by omega), if_pos (by omega)]; omega

/-- The digits of n, at least 'wide' of them. -/
def wdigAux (b wide : Nat) : Nat → Nat → List UInt8 → List UInt8
  | 0, _, acc => acc
  | f + 1, n, acc => if 0 < n ∨ acc.length < wide then wdigAux b wide f (n / b) (sgn (n % b) :: acc) else acc
def wdig (b wide n : Nat) : List UInt8 := wdigAux b wide 20 n []

theorem wdigAux_stop {b wide f n : Nat} {acc : List UInt8} (h : ¬ (0 < n ∨ acc.length < wide)) : wdigAux b wide f n acc = acc := by
  cases f with
  | zero => rfl
  | succ f => rw [wdigAux, if_neg h]
theorem wdigAux_step {b wide f n : Nat} {acc : List UInt8} (h : 0 < n ∨ acc.length < wide) : wdigAux b wide (f + 1) n acc = wdigAux b wide f (n / b) (sgn (n % b) :: acc) := by
  rw [wdigAux, if_pos h]

theorem pow_step {b k n n0 : Nat} (hb : 1 ≤ b) (h : n * b ^ k ≤ n0) : n / b * b ^ (k + 1) ≤ n0 := by
  refine Nat.le_trans ?_ h
  rw [Nat.pow_succ, Nat.mul_comm (b ^ k) b, ← Nat.mul_assoc]
  exact Nat.mul_le_mul_right _ (Nat.div_mul_le_self n b)
theorem pow_room {b k n n0 : Nat} (hb : 10 ≤ b) (h : n * b ^ k ≤ n0) (hn : 0 < n) (h0 : n0 < 18446744073709551616) (hk : 20 ≤ k) : False := by
  have h1 : 10 ^ 20 ≤ b ^ k := Nat.le_trans (Nat.pow_le_pow_left hb 20) (Nat.pow_le_pow_right (by omega) hk)
  have h2 : 1 * b ^ k ≤ n * b ^ k := Nat.mul_le_mul_right _ hn
  omega

theorem zeros20 (j : Nat) (h : j < 20) : (#[Value.int .u8 0, Value.int .u8 0, Value.int .u8 0, Value.int .u8 0, Value.int .u8 0, Value.int .u8 0, Value.int .u8 0, Value.int .u8 0, Value.int .u8 0, Value.int .u8 0,
    Value.int .u8 0, Value.int .u8 0, Value.int .u8 0, Value.int .u8 0, Value.int .u8 0, Value.int .u8 0, Value.int .u8 0, Value.int .u8 0, Value.int .u8 0, Value.int .u8 0] : Array Value)[j]? = some (.int .u8 0) := by
  have : (#[Value.int .u8 0, Value.int .u8 0, Value.int .u8 0, Value.int .u8 0, Value.int .u8 0, Value.int .u8 0, Value.int .u8 0, Value.int .u8 0, Value.int .u8 0, Value.int .u8 0,
    Value.int .u8 0, Value.int .u8 0, Value.int .u8 0, Value.int .u8 0, Value.int .u8 0, Value.int .u8 0, Value.int .u8 0, Value.int .u8 0, Value.int .u8 0, Value.int .u8 0] : Array Value) = Array.replicate 20 (Value.int .u8 0) := rfl
  rw [this, Array.getElem?_replicate, if_pos h]

/-- What stands in the row: from place 'at' on the digits acc. -/
structure DigRow (B at' : Nat) (acc : List UInt8) (wr : World) : Prop where
  len : at' + acc.length = 20
  cell : ∀ j (h : j < acc.length), wr.cell? ⟨B, at' + j, none⟩ = some (.int .u8 (acc[j].toNat : Int))
  low : ∀ j, j < at' → ∃ n : Int, wr.cell? ⟨B, j, none⟩ = some (.int .u8 n)
  free : ∀ j, wr.frozen? ⟨B, j, none⟩ = false

theorem DigRow.store {B a : Nat} {acc : List UInt8} {wr : World} (h : DigRow B (a + 1) acc wr) (c : UInt8) : DigRow B a (c :: acc) (wr.setCell ⟨B, a, none⟩ (.int .u8 (c.toNat : Int))) := by
  obtain ⟨n, hn⟩ := h.low a (by omega)
  refine ⟨by have := h.len; simp; omega, fun j hj => ?_, fun j hj => ?_, fun j => by rw [World.frozen?_setCell]; exact h.free j⟩
  · cases j with
    | zero => exact World.cell?_setCell_same _ _ _ hn
    | succ j =>
      rw [World.cell?_setCell_other _ _ _ _ (by simp), show a + (j + 1) = a + 1 + j from by omega, h.cell j (by simpa using hj)]
      rfl
  · obtain ⟨m, hm⟩ := h.low j (by omega)
    exact ⟨m, by rw [World.cell?_setCell_other _ _ _ _ (by intro e; injection e with _ e; omega), hm]⟩

theorem DigRow.string {P : Program} {B a cap : Nat} {acc : List UInt8} {wr : World} {src dst e : TypeId} (h : DigRow B a acc wr) (hs : P.underlying src = some (.slice e)) (he : P.underlying e = some (.int .u8)) (hd : P.underlying dst = some .string) :
    (convert src dst (.slice (some ⟨B, a, none⟩) acc.length cap)).run P wr = .ok (.string ⟨acc.toArray⟩) wr :=
  run_convert_bytes_back (P := P) wr src dst e ⟨B, a, none⟩ cap acc hs he hd fun j hj => by
    rw [show (⟨B, a, none⟩ : Addr).add j = ⟨B, a + j, none⟩ from by rw [Addr.add_lit]]
    exact h.cell j hj

theorem Try.arr20 : Try.prog.underlying 100 = some (.array (Try.prog.arrayLen 100) (Try.prog.elem 100)) := by kernel_rfl
theorem Try.len20 : Try.prog.arrayLen 100 = 20 := by kernel_rfl
theorem Try.size20 (w : World) : (sizeOf (Try.prog.elem 100)).run Try.prog w = .ok 1 w := by kernel_rfl
theorem row_slice (B a : Nat) (h : a < 20) (w : World) : (Instr.sliceAt 100 (.pointer (some ⟨B, 0, none⟩)) (some (.int .i64 a)) none none).run Try.prog w = .ok (.slice (some ⟨B, a, none⟩) (20 - a) (20 - a)) w := by
  rw [run_sliceAt_array_l w 100 ⟨B, 0, none⟩ Try.arr20 .i64 a (by omega) (by rw [Try.len20]; omega), Try.size20]
  simp only [Result.andThen, slicedAt, Try.len20, Int.toNat_natCast]
  rw [if_neg (by omega), Addr.add_lit]
  simp
theorem signs_at (d : Nat) (h : d < 16) (h' : d < (⟨#[48, 49, 50, 51, 52, 53, 54, 55, 56, 57, 97, 98, 99, 100, 101, 102]⟩ : ByteArray).size) :
    ((⟨#[48, 49, 50, 51, 52, 53, 54, 55, 56, 57, 97, 98, 99, 100, 101, 102]⟩ : ByteArray)[d]'h') = sgn d := by
  have : ∀ d, (h : d < 16) → ((⟨#[48, 49, 50, 51, 52, 53, 54, 55, 56, 57, 97, 98, 99, 100, 101, 102]⟩ : ByteArray)[d]'h) = sgn d := by decide +kernel
  exact this d h

set_option maxRecDepth 100000 in
set_option maxHeartbeats 1000000 in
theorem write_10_any (n : Nat) (wide : Int) (w : World) (hn : n < 18446744073709551616) (hw0 : 1 ≤ wide) (hw1 : wide ≤ 20) :
    Calls Try.prog 73 #[.int .u64 n, .int .u64 10, .int .i64 wide] w fun e w' => e = .returned (.string ⟨(wdig 10 wide.toNat n).toArray⟩) ∧ Below w.heap.size w w' := by
  obtain ⟨wd, rfl⟩ := Int.eq_ofNat_of_zero_le (show 0 ≤ wide by omega)
  rw [Int.toNat_natCast]
  go_enter Try.func73, Try.ntmps73
  go_wp2
  go_outline
  go_loopw [0, 8] (fun v0 v8 wr => ∃ (m a : Nat) (acc : List UInt8), v0 = .int .u64 m ∧ v8 = .int .i64 a ∧ a ≤ 20 ∧ m * 10 ^ (20 - a) ≤ n ∧ wdigAux 10 wd a m acc = wdig 10 wd n ∧ DigRow w.heap.size a acc wr ∧ Below w.heap.size w wr) (fun _ i _ => (intOf i).toNat)
  case atStart =>
    refine ⟨n, 20, [], rfl, rfl, Nat.le_refl _, by simp, rfl, ⟨rfl, fun j h => by simp at h, fun j hj => ?_, fun j => ?_⟩, (Below.refl _ _).alloc (Nat.le_refl _) _⟩
    · exact ⟨0, by rw [World.cell?_alloc_at _ _ _ _ rfl]; exact zeros20 j hj⟩
    · exact World.frozen?_alloc_at _ _ _ _ rfl
  case round =>
    obtain ⟨m, a, acc, rfl, rfl, ha, hp, hd, hrow, hbel⟩ := hrel
    have HP := Lib.hid hp
    have HD := Lib.hid hd
    have hlen := hrow.len
    clear hp hd
    by_cases hgo : 0 < m ∨ acc.length < wd
    · have ha1 : 1 ≤ a := by
        rcases hgo with h | h
        · by_cases h1 : 1 ≤ a
          · exact h1
          · exact absurd (pow_room (by omega) HP.out h hn (by omega)) id
        · omega
      obtain ⟨a, rfl⟩ : ∃ a', a = a' + 1 := ⟨a - 1, by omega⟩
      obtain ⟨x, hx⟩ := hrow.low a (by omega)
      have hfr := hrow.free a
      have hmn : (m : Int) ≤ 18446744073709551615 := by
        have := Nat.le_mul_of_pos_right m (show 0 < 10 ^ (20 - (a + 1)) from Nat.pow_pos (by omega))
        have := HP.out
        omega
      have hg2 : 0 < m ∨ ((m : Int) ≤ 0 ∧ (20 : Int) - (a + 1) < wd) := by omega
      rcases hg2 with hg | ⟨hg, hg2⟩
      · go_wp2
        go_roundw
        case rel =>
          refine ⟨m / 10, a, sgn (m % 10) :: acc, by simp, rfl, by omega, ?_, ?_, ?_, hbel.setCell (Nat.le_refl _) _⟩
          · have := pow_step (b := 10) (by omega) HP.out
            rwa [show 20 - (a + 1) + 1 = 20 - a from by omega] at this
          · rw [← HD.out]; exact (wdigAux_step hgo).symm
          · rw [signs_at _ (by omega)]; exact hrow.store _
        case measure => simp [intOf]
      · obtain rfl : m = 0 := by omega
        clear hg
        go_wp2
        go_roundw
        case rel =>
          refine ⟨0, a, sgn 0 :: acc, rfl, rfl, by omega, by simp, ?_, ?_, hbel.setCell (Nat.le_refl _) _⟩
          · rw [← HD.out]; exact (wdigAux_step hgo).symm
          · exact hrow.store (sgn 0)
        case measure => simp [intOf]
    · have e1 : (m : Int) = 0 := by omega
      have e2 : (wd : Int) ≤ 20 - a := by omega
      have ha2 : a < 20 := by omega
      have hsl := fun wx => row_slice w.heap.size a ha2 wx
      have hal : 20 - a = acc.length := by omega
      rw [hal] at hsl
      have hcv := hrow.string (P := Try.prog) (cap := acc.length) (src := 59) (dst := 9) Try.underlying59 Try.underlying5 Try.underlying9
      have HD2 := Lib.hid ((wdigAux_stop (b := 10) (f := a) (show ¬ (0 < m ∨ acc.length < wd) from hgo)).symm.trans HD.out)
      clear hal
      go_wp2
      go_ret
      exact ⟨ret_str (by rw [← HD2.out]), hbel⟩

set_option maxRecDepth 100000 in
set_option maxHeartbeats 1000000 in
theorem write_16_any (n : Nat) (wide : Int) (w : World) (hn : n < 18446744073709551616) (hw0 : 1 ≤ wide) (hw1 : wide ≤ 20) :
    Calls Try.prog 73 #[.int .u64 n, .int .u64 16, .int .i64 wide] w fun e w' => e = .returned (.string ⟨(wdig 16 wide.toNat n).toArray⟩) ∧ Below w.heap.size w w' := by
  obtain ⟨wd, rfl⟩ := Int.eq_ofNat_of_zero_le (show 0 ≤ wide by omega)
  rw [Int.toNat_natCast]
  go_enter Try.func73, Try.ntmps73
  go_wp2
  go_outline
  go_loopw [0, 8] (fun v0 v8 wr => ∃ (m a : Nat) (acc : List UInt8), v0 = .int .u64 m ∧ v8 = .int .i64 a ∧ a ≤ 20 ∧ m * 16 ^ (20 - a) ≤ n ∧ wdigAux 16 wd a m acc = wdig 16 wd n ∧ DigRow w.heap.size a acc wr ∧ Below w.heap.size w wr) (fun _ i _ => (intOf i).toNat)
  case atStart =>
    refine ⟨n, 20, [], rfl, rfl, Nat.le_refl _, by simp, rfl, ⟨rfl, fun j h => by simp at h, fun j hj => ?_, fun j => ?_⟩, (Below.refl _ _).alloc (Nat.le_refl _) _⟩
    · exact ⟨0, by rw [World.cell?_alloc_at _ _ _ _ rfl]; exact zeros20 j hj⟩
    · exact World.frozen?_alloc_at _ _ _ _ rfl
  case round =>
    obtain ⟨m, a, acc, rfl, rfl, ha, hp, hd, hrow, hbel⟩ := hrel
    have HP := Lib.hid hp
    have HD := Lib.hid hd
    have hlen := hrow.len
    clear hp hd
    by_cases hgo : 0 < m ∨ acc.length < wd
    · have ha1 : 1 ≤ a := by
        rcases hgo with h | h
        · by_cases h1 : 1 ≤ a
          · exact h1
          · exact absurd (pow_room (by omega) HP.out h hn (by omega)) id
        · omega
      obtain ⟨a, rfl⟩ : ∃ a', a = a' + 1 := ⟨a - 1, by omega⟩
      obtain ⟨x, hx⟩ := hrow.low a (by omega)
      have hfr := hrow.free a
      have hmn : (m : Int) ≤ 18446744073709551615 := by
        have := Nat.le_mul_of_pos_right m (show 0 < 16 ^ (20 - (a + 1)) from Nat.pow_pos (by omega))
        have := HP.out
        omega
      have hg2 : 0 < m ∨ ((m : Int) ≤ 0 ∧ (20 : Int) - (a + 1) < wd) := by omega
      rcases hg2 with hg | ⟨hg, hg2⟩
      · go_wp2
        go_roundw
        case rel =>
          refine ⟨m / 16, a, sgn (m % 16) :: acc, by simp, rfl, by omega, ?_, ?_, ?_, hbel.setCell (Nat.le_refl _) _⟩
          · have := pow_step (b := 16) (by omega) HP.out
            rwa [show 20 - (a + 1) + 1 = 20 - a from by omega] at this
          · rw [← HD.out]; exact (wdigAux_step hgo).symm
          · rw [signs_at _ (by omega)]; exact hrow.store _
        case measure => simp [intOf]
      · obtain rfl : m = 0 := by omega
        clear hg
        go_wp2
        go_roundw
        case rel =>
          refine ⟨0, a, sgn 0 :: acc, rfl, rfl, by omega, by simp, ?_, ?_, hbel.setCell (Nat.le_refl _) _⟩
          · rw [← HD.out]; exact (wdigAux_step hgo).symm
          · exact hrow.store (sgn 0)
        case measure => simp [intOf]
    · have e1 : (m : Int) = 0 := by omega
      have e2 : (wd : Int) ≤ 20 - a := by omega
      have ha2 : a < 20 := by omega
      have hsl := fun wx => row_slice w.heap.size a ha2 wx
      have hal : 20 - a = acc.length := by omega
      rw [hal] at hsl
      have hcv := hrow.string (P := Try.prog) (cap := acc.length) (src := 59) (dst := 9) Try.underlying59 Try.underlying5 Try.underlying9
      have HD2 := Lib.hid ((wdigAux_stop (b := 16) (f := a) (show ¬ (0 < m ∨ acc.length < wd) from hgo)).symm.trans HD.out)
      clear hal
      go_wp2
      go_ret
      exact ⟨ret_str (by rw [← HD2.out]), hbel⟩
end Go.Proofs.Ytahehpgnemanmaa
