/- Layer 2: numbers written. -/
import Derived.Test.YthlkflneldjnjaaNum
namespace Go.Proofs.Ythlkflneldjnjaa
open Go.RowKit
set_option linter.unusedVariables false
set_option linter.unusedSimpArgs false

def sgn (d : Nat) : UInt8 := UInt8.ofNat (if d < 10 then 48 + d else 87 + d)
theorem sgn_toNat (d : Nat) (h : d < 16) : (sgn d).toNat = if d < 10 then 48 + d else 87 + d := by
  unfold sgn
  split <;> simp <;> omega
theorem digV_sgn (d : Nat) (h : d < 16) : digV (sgn d).toNat = d := by
  rw [sgn_toNat d h]
  split
  · unfold digV; rw [if_pos (by omega)]; omega
  · unfold digV; rw [if_neg (by omega), if_neg (by omega), if_pos (by omega)]; omega

/-- The digits of n, at least 'wide' of them. -/
def wdigAux (b wide : Nat) : Nat → Nat → List UInt8 → List UInt8
  | 0, _, acc => acc
  | f + 1, n, acc => if 0 < n ∨ acc.length < wide then wdigAux b wide f (n / b) (sgn (n % b) :: acc) else acc
def wdig (b wide n : Nat) : List UInt8 := wdigAux b wide 20 n []

theorem wdigAux_stop {b wide f n : Nat} {acc : List UInt8} (h : ¬ (0 < n ∨ acc.length < wide)) : wdigAux b wide f n acc = acc := by
  cases f with
  | zero => rfl
  | succ f => rw [wdigAux, if_neg h]
theorem wdigAux_step {b wide f n : Nat} {acc : List UInt8} (h : 0 < n ∨ acc.length < wide) : wdigAux b wide (f + 1) n acc = wdigAux b wide f (n / b) (sgn (n % b) :: acc) := by
  rw [wdigAux, if_pos h]

theorem pow_step {b k n n0 : Nat} (hb : 1 ≤ b) (h : n * b ^ k ≤ n0) : n / b * b ^ (k + 1) ≤ n0 := by
  refine Nat.le_trans ?_ h
  rw [Nat.pow_succ, Nat.mul_comm (b ^ k) b, ← Nat.mul_assoc]
  exact Nat.mul_le_mul_right _ (Nat.div_mul_le_self n b)
theorem pow_room {b k n n0 : Nat} (hb : 10 ≤ b) (h : n * b ^ k ≤ n0) (hn : 0 < n) (h0 : n0 < 18446744073709551616) (hk : 20 ≤ k) : False := by
  have h1 : 10 ^ 20 ≤ b ^ k := Nat.le_trans (Nat.pow_le_pow_left hb 20) (Nat.pow_le_pow_right (by omega) hk)
  have h2 : 1 * b ^ k ≤ n * b ^ k := Nat.mul_le_mul_right _ hn
  omega

theorem zeros20 (j : Nat) (h : j < 20) : (#[Value.int .u8 0, Value.int .u8 0, Value.int .u8 0, Value.int .u8 0, Value.int .u8 0, Value.int .u8 0, Value.int .u8 0, Value.int .u8 0, Value.int .u8 0, Value.int .u8 0,
    Value.int .u8 0, Value.int .u8 0, Value.int .u8 0, Value.int .u8 0, Value.int .u8 0, Value.int .u8 0, Value.int .u8 0, Value.int .u8 0, Value.int .u8 0, Value.int .u8 0] : Array Value)[j]? = some (.int .u8 0) := by
  have : (#[Value.int .u8 0, Value.int .u8 0, Value.int .u8 0, Value.int .u8 0, Value.int .u8 0, Value.int .u8 0, Value.int .u8 0, Value.int .u8 0, Value.int .u8 0, Value.int .u8 0,
    Value.int .u8 0, Value.int .u8 0, Value.int .u8 0, Value.int .u8 0, Value.int .u8 0, Value.int .u8 0, Value.int .u8 0, Value.int .u8 0, Value.int .u8 0, Value.int .u8 0] : Array Value) = Array.replicate 20 (Value.int .u8 0) := rfl
  rw [this, Array.getElem?_replicate, if_pos h]

/-- What stands in the row: from place 'at' on the digits acc. -/
structure DigRow (B at' : Nat) (acc : List UInt8) (wr : World) : Prop where
  len : at' + acc.length = 20
  cell : ∀ j (h : j < acc.length), wr.cell? ⟨B, at' + j, none⟩ = some (.int .u8 (acc[j].toNat : Int))
  low : ∀ j, j < at' → ∃ n : Int, wr.cell? ⟨B, j, none⟩ = some (.int .u8 n)
  free : ∀ j, wr.frozen? ⟨B, j, none⟩ = false

theorem DigRow.store {B a : Nat} {acc : List UInt8} {wr : World} (h : DigRow B (a + 1) acc wr) (c : UInt8) : DigRow B a (c :: acc) (wr.setCell ⟨B, a, none⟩ (.int .u8 (c.toNat : Int))) := by
  obtain ⟨n, hn⟩ := h.low a (by omega)
  refine ⟨by have := h.len; simp; omega, fun j hj => ?_, fun j hj => ?_, fun j => by rw [World.frozen?_setCell]; exact h.free j⟩
  · cases j with
    | zero => exact World.cell?_setCell_same _ _ _ hn
    | succ j =>
      rw [World.cell?_setCell_other _ _ _ _ (by simp), show a + (j + 1) = a + 1 + j from by omega, h.cell j (by simpa using hj)]
      rfl
  · obtain ⟨m, hm⟩ := h.low j (by omega)
    exact ⟨m, by rw [World.cell?_setCell_other _ _ _ _ (by intro e; injection e with _ e; omega), hm]⟩

theorem DigRow.string {P : Program} {B a cap : Nat} {acc : List UInt8} {wr : World} {src dst e : TypeId} (h : DigRow B a acc wr) (hs : P.underlying src = some (.slice e)) (he : P.underlying e = some (.int .u8)) (hd : P.underlying dst = some .string) :
    (convert src dst (.slice (some ⟨B, a, none⟩) acc.length cap)).run P wr = .ok (.string ⟨acc.toArray⟩) wr :=
  run_convert_bytes_back (P := P) wr src dst e ⟨B, a, none⟩ cap acc hs he hd fun j hj => by
    rw [show (⟨B, a, none⟩ : Addr).add j = ⟨B, a + j, none⟩ from by rw [Addr.add_lit]]
    exact h.cell j hj

theorem signs_at (d : Nat) (h : d < 16) (h' : d < (⟨#[48, 49, 50, 51, 52, 53, 54, 55, 56, 57, 97, 98, 99, 100, 101, 102]⟩ : ByteArray).size) :
    ((⟨#[48, 49, 50, 51, 52, 53, 54, 55, 56, 57, 97, 98, 99, 100, 101, 102]⟩ : ByteArray)[d]'h') = sgn d := by
  have : ∀ d, (h : d < 16) → ((⟨#[48, 49, 50, 51, 52, 53, 54, 55, 56, 57, 97, 98, 99, 100, 101, 102]⟩ : ByteArray)[d]'h) = sgn d := by decide +kernel
  exact this d h

end Go.Proofs.Ythlkflneldjnjaa
