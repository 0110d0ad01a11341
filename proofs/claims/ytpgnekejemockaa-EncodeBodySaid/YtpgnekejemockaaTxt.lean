/- Numbers of digits, as plain functions (layer 2). · Layer 2: numbers read. · Layer 2: numbers, as the document's answer reads them. · Layer 2: numbers written. · Layer 2: the rest of the functions, and the document's examples. -/
import Derived.Test.YtpgnekejemockaaPb
import Derived.Test.YtpgnekejemockaaProg
import Derived.WalkSpells
import Derived.WalkLawsBesides
import Derived.Deep.Light
import Derived.Lib.TrimU
namespace Go.Proofs.Ytpgnekejemockaa
open Go.RowKit
set_option linter.unusedVariables false
set_option linter.unusedSimpArgs false

/-- The value of a digit; 99: none. -/
def digV (n : Nat) : Nat := if 48 ≤ n ∧ n ≤ 57 then n - 48 else if 65 ≤ n ∧ n ≤ 70 then n - 55 else if 97 ≤ n ∧ n ≤ 102 then n - 87 else 99
def digI (n : Int) : Int := if 48 ≤ n ∧ n ≤ 57 then n - 48 else if 97 ≤ n ∧ n ≤ 102 then n - 87 else if 65 ≤ n ∧ n ≤ 70 then n - 55 else -1
theorem digI_range (n : Int) : -1 ≤ digI n ∧ digI n ≤ 15 := by unfold digI; repeat' split
                                                               all_goals omega
theorem digI_high (n : Nat) (h : 128 ≤ n) : digI (n : Int) = -1 := by
  unfold digI; rw [if_neg (by omega), if_neg (by omega), if_neg (by omega)]
theorem digI_digV (n b : Nat) (hb : b ≤ 16) : (digI (n : Int) < 0 ∨ (b : Int) ≤ digI (n : Int)) ↔ b ≤ digV n := by
  unfold digI digV
  by_cases h1 : 48 ≤ n ∧ n ≤ 57
  · rw [if_pos (by omega), if_pos h1]; omega
  · rw [if_neg (by omega), if_neg h1]
    by_cases h2 : 97 ≤ n ∧ n ≤ 102
    · rw [if_pos (by omega), if_neg (by omega), if_pos h2]; omega
    · rw [if_neg (by omega)]
      by_cases h3 : 65 ≤ n ∧ n ≤ 70
      · rw [if_pos (by omega), if_pos h3]; omega
      · rw [if_neg (by omega), if_neg h3, if_neg h2]; omega
theorem digI_eq (n b : Nat) (hb : b ≤ 16) (h : digV n < b) : digI (n : Int) = digV n := by
  unfold digI; unfold digV at *
  by_cases h1 : 48 ≤ n ∧ n ≤ 57
  · rw [if_pos (by omega), if_pos h1]; omega
  · rw [if_neg (by omega), if_neg h1] at *
    by_cases h2 : 97 ≤ n ∧ n ≤ 102
    · rw [if_pos (by omega), if_neg (by omega), if_pos h2]; omega
    · rw [if_neg (by omega)]
      by_cases h3 : 65 ≤ n ∧ n ≤ 70
      · rw [if_pos (by omega), if_pos h3]; omega
      · rw [if_neg h3, if_neg h2] at h; omega
theorem digV_high (n : Nat) (h : 128 ≤ n) : digV n = 99 := by
  unfold digV; rw [if_neg (by omega), if_neg (by omega), if_neg (by omega)]

/-- The number that octets come to, to a base. -/
def valN (b : Nat) (l : List UInt8) : Nat := l.foldl (fun a c => a * b + digV c.toNat) 0
theorem valN_snoc (b : Nat) (l : List UInt8) (c : UInt8) : valN b (l ++ [c]) = valN b l * b + digV c.toNat := by simp [valN, List.foldl_append]
theorem foldl_ge (b : Nat) (hb : 1 ≤ b) : ∀ (l : List UInt8) (a : Nat), a ≤ l.foldl (fun a c => a * b + digV c.toNat) a
  | [], a => Nat.le_refl _
  | c :: l, a => by
    rw [List.foldl_cons]
    refine Nat.le_trans ?_ (foldl_ge b hb l _)
    have : a * 1 ≤ a * b := Nat.mul_le_mul_left a hb
    omega
theorem valN_append_ge (b : Nat) (hb : 1 ≤ b) (l m : List UInt8) : valN b l ≤ valN b (l ++ m) := by
  rw [valN, valN, List.foldl_append]
  exact foldl_ge b hb m _
theorem foldl_pow (b : Nat) (hb : 1 ≤ b) : ∀ (l : List UInt8) (a : Nat), a * b ^ l.length ≤ l.foldl (fun a c => a * b + digV c.toNat) a
  | [], a => by simp
  | c :: l, a => by
    rw [List.foldl_cons, List.length_cons]
    refine Nat.le_trans ?_ (foldl_pow b hb l _)
    rw [Nat.pow_succ, Nat.mul_comm (b ^ l.length) b, ← Nat.mul_assoc]
    exact Nat.mul_le_mul_right _ (by omega)
theorem valN_zero (b : Nat) (m : List UInt8) : ∀ p : List UInt8, (∀ c ∈ p, c.toNat = 48) → valN b (p ++ m) = valN b m
  | [], _ => rfl
  | c :: p, h => by
    have hc : digV c.toNat = 0 := by rw [h c (by simp)]; rfl
    have := valN_zero b m p fun d hd => h d (by simp [hd])
    rw [← this]
    simp [valN, hc]
theorem valN_big (b : Nat) (hb : 10 ≤ b) (c : UInt8) (l : List UInt8) (hc : 1 ≤ digV c.toNat) (hl : 19 ≤ l.length) : 9223372036854775807 < valN b (c :: l) := by
  have h1 := foldl_pow b (by omega) l (0 * b + digV c.toNat)
  have h2 : 10 ^ 19 ≤ b ^ l.length := Nat.le_trans (Nat.pow_le_pow_left hb 19) (Nat.pow_le_pow_right (by omega) hl)
  have h3 : (0 * b + digV c.toNat) * b ^ l.length ≤ valN b (c :: l) := h1
  have h4 : 1 * b ^ l.length ≤ (0 * b + digV c.toNat) * b ^ l.length := Nat.mul_le_mul_right _ (by omega)
  omega

/-- P2.1. -/
def numOk (b : Nat) (l : List UInt8) : Bool := l.all fun c => decide (digV c.toNat < b)
def numE (b : Nat) (s : ByteArray) (most : Int) : Int :=
  if s.size = 0 then 2 else if numOk b s.data.toList = false then 3 else if (valN b s.data.toList : Int) ≤ most then 0 else 5
def numV (b : Nat) (s : ByteArray) (most : Int) : Int := if numE b s most = 0 then valN b s.data.toList else 0
theorem num_empty {b : Nat} {s : ByteArray} {most : Int} (h : s.size = 0) : numE b s most = 2 ∧ numV b s most = 0 := by
  have : numE b s most = 2 := by unfold numE; rw [if_pos h]
  exact ⟨this, by unfold numV; rw [this]; rfl⟩
theorem num_form {b : Nat} {s : ByteArray} {most : Int} (j : Nat) (hj : j < s.size) (h : b ≤ digV (bt s j)) : numE b s most = 3 ∧ numV b s most = 0 := by
  have hn : numOk b s.data.toList = false := by
    unfold numOk
    rw [List.all_eq_false]
    refine ⟨s.data.toList[j]'(by simpa using hj), List.getElem_mem _, ?_⟩
    rw [bt_list s j hj]; simp; omega
  have : numE b s most = 3 := by unfold numE; rw [if_neg (by omega), if_pos hn]
  exact ⟨this, by unfold numV; rw [this]; rfl⟩
theorem numOk_of {b : Nat} {s : ByteArray} (h : ∀ j, j < s.size → digV (bt s j) < b) : numOk b s.data.toList = true := by
  unfold numOk
  rw [List.all_eq_true]
  intro c hc
  obtain ⟨j, hj, rfl⟩ := List.getElem_of_mem hc
  have hj' : j < s.size := by simpa using hj
  rw [bt_list s j hj']; simp; exact h j hj'
theorem num_great {b : Nat} {s : ByteArray} {most : Int} (h0 : s.size ≠ 0) (hok : ∀ j, j < s.size → digV (bt s j) < b) (h : most < valN b s.data.toList) : numE b s most = 5 ∧ numV b s most = 0 := by
  have : numE b s most = 5 := by unfold numE; rw [if_neg h0, if_neg (by rw [numOk_of hok]; simp), if_neg (by omega)]
  exact ⟨this, by unfold numV; rw [this]; rfl⟩
theorem num_fits {b : Nat} {s : ByteArray} {most : Int} (h0 : s.size ≠ 0) (hok : ∀ j, j < s.size → digV (bt s j) < b) (h : (valN b s.data.toList : Int) ≤ most) : numE b s most = 0 ∧ numV b s most = valN b s.data.toList := by
  have : numE b s most = 0 := by unfold numE; rw [if_neg h0, if_neg (by rw [numOk_of hok]; simp), if_pos h]
  exact ⟨this, by unfold numV; rw [if_pos this]⟩
theorem ret_int {k : IntKind} {a b : Int} (h : a = b) : Ending.returned (.int k a) = .returned (.int k b) := by rw [h]
theorem ret_two {a b c d : Int} (h : c = a ∧ d = b) : Ending.returned (.tuple #[.int .i64 b, .int .i64 a]) = .returned (.tuple #[.int .i64 d, .int .i64 c]) := by rw [h.1, h.2]
theorem take_snoc (s : ByteArray) (k : Nat) (h : k < s.size) : s.data.toList.take (k + 1) = s.data.toList.take k ++ [s[k]] := by
  rw [List.take_succ_eq_append_getElem (by simpa using h)]; rfl
theorem valN_take (b : Nat) (s : ByteArray) (k : Nat) (h : k < s.size) : valN b (s.data.toList.take (k + 1)) = valN b (s.data.toList.take k) * b + digV (bt s k) := by
  rw [take_snoc s k h, valN_snoc, bt_at s k h]
theorem valN_take_le (b : Nat) (hb : 1 ≤ b) (s : ByteArray) (k : Nat) : valN b (s.data.toList.take k) ≤ valN b s.data.toList := by
  conv => rhs; rw [← List.take_append_drop k s.data.toList]
  exact valN_append_ge b hb _ _
end Go.Proofs.Ytpgnekejemockaa
namespace Go.Proofs.Ytpgnekejemockaa
open Go.RowKit
set_option linter.unusedVariables false
set_option linter.unusedSimpArgs false

/-- What is kept while a number to the base 10 is read. -/
def ReadKeeps10 (s : ByteArray) (v8 v9 : Value) (pos : Nat) : Prop :=
  pos ≤ s.size ∧ (∀ j, j < pos → digV (bt s j) < 10) ∧
  ((v9 = .bool false ∧ ((valN 10 (s.data.toList.take pos) : Nat) : Int) ≤ 9223372036854775807 ∧ v8 = .int .i64 ((valN 10 (s.data.toList.take pos) : Nat) : Int)) ∨
   (v9 = .bool true ∧ 9223372036854775807 < ((valN 10 (s.data.toList.take pos) : Nat) : Int) ∧ ∃ n : Int, 0 ≤ n ∧ n ≤ 9223372036854775807 ∧ v8 = .int .i64 n))

/-- What is kept while a number to the base 16 is read. -/
def ReadKeeps16 (s : ByteArray) (v8 v9 : Value) (pos : Nat) : Prop :=
  pos ≤ s.size ∧ (∀ j, j < pos → digV (bt s j) < 16) ∧
  ((v9 = .bool false ∧ ((valN 16 (s.data.toList.take pos) : Nat) : Int) ≤ 9223372036854775807 ∧ v8 = .int .i64 ((valN 16 (s.data.toList.take pos) : Nat) : Int)) ∨
   (v9 = .bool true ∧ 9223372036854775807 < ((valN 16 (s.data.toList.take pos) : Nat) : Int) ∧ ∃ n : Int, 0 ≤ n ∧ n ≤ 9223372036854775807 ∧ v8 = .int .i64 n))

end Go.Proofs.Ytpgnekejemockaa
namespace Go.Proofs.Ytpgnekejemockaa
open Go.RowKit
set_option linter.unusedVariables false
set_option linter.unusedSimpArgs false

theorem digV_zero {n b : Nat} (hb : b ≤ 16) (h : digV n < b) (h0 : n ≠ 48) : 1 ≤ digV n := by
  unfold digV at *
  repeat' split
  all_goals omega
theorem valN_more (b : Nat) (hb : 1 ≤ b) (s : ByteArray) (k : Nat) (h : k < s.size) : valN b (s.data.toList.take k) * b ≤ valN b s.data.toList := by
  have h1 := valN_take b s k h
  have h2 := valN_take_le b hb s (k + 1)
  omega

end Go.Proofs.Ytpgnekejemockaa
namespace Go.Proofs.Ytpgnekejemockaa
open Go.RowKit
set_option linter.unusedVariables false
set_option linter.unusedSimpArgs false

def sgn (d : Nat) : UInt8 := UInt8.ofNat (if d < 10 then 48 + d else 87 + d)
theorem sgn_toNat (d : Nat) (h : d < 16) : (sgn d).toNat = if d < 10 then 48 + d else 87 + d := by
  unfold sgn
  split <;> simp <;> omega
theorem digV_sgn (d : Nat) (h : d < 16) : digV (sgn d).toNat = d := by
  rw [sgn_toNat d h]
  split
  · unfold digV; rw [if_pos (by omega)]; omega
  · unfold digV; rw [if_neg (by omega), if_neg (by omega), if_pos (by omega)]; omega

/-- The digits of n, at least 'wide' of them. -/
def wdigAux (b wide : Nat) : Nat → Nat → List UInt8 → List UInt8
  | 0, _, acc => acc
  | f + 1, n, acc => if 0 < n ∨ acc.length < wide then wdigAux b wide f (n / b) (sgn (n % b) :: acc) else acc
def wdig (b wide n : Nat) : List UInt8 := wdigAux b wide 20 n []

theorem wdigAux_stop {b wide f n : Nat} {acc : List UInt8} (h : ¬ (0 < n ∨ acc.length < wide)) : wdigAux b wide f n acc = acc := by
  cases f with
  | zero => rfl
  | succ f => rw [wdigAux, if_neg h]
theorem wdigAux_step {b wide f n : Nat} {acc : List UInt8} (h : 0 < n ∨ acc.length < wide) : wdigAux b wide (f + 1) n acc = wdigAux b wide f (n / b) (sgn (n % b) :: acc) := by
  rw [wdigAux, if_pos h]

theorem pow_step {b k n n0 : Nat} (hb : 1 ≤ b) (h : n * b ^ k ≤ n0) : n / b * b ^ (k + 1) ≤ n0 := by
  refine Nat.le_trans ?_ h
  rw [Nat.pow_succ, Nat.mul_comm (b ^ k) b, ← Nat.mul_assoc]
  exact Nat.mul_le_mul_right _ (Nat.div_mul_le_self n b)
theorem pow_room {b k n n0 : Nat} (hb : 10 ≤ b) (h : n * b ^ k ≤ n0) (hn : 0 < n) (h0 : n0 < 18446744073709551616) (hk : 20 ≤ k) : False := by
  have h1 : 10 ^ 20 ≤ b ^ k := Nat.le_trans (Nat.pow_le_pow_left hb 20) (Nat.pow_le_pow_right (by omega) hk)
  have h2 : 1 * b ^ k ≤ n * b ^ k := Nat.mul_le_mul_right _ hn
  omega

theorem zeros20 (j : Nat) (h : j < 20) : (#[Value.int .u8 0, Value.int .u8 0, Value.int .u8 0, Value.int .u8 0, Value.int .u8 0, Value.int .u8 0, Value.int .u8 0, Value.int .u8 0, Value.int .u8 0, Value.int .u8 0,
    Value.int .u8 0, Value.int .u8 0, Value.int .u8 0, Value.int .u8 0, Value.int .u8 0, Value.int .u8 0, Value.int .u8 0, Value.int .u8 0, Value.int .u8 0, Value.int .u8 0] : Array Value)[j]? = some (.int .u8 0) := by
  have : (#[Value.int .u8 0, Value.int .u8 0, Value.int .u8 0, Value.int .u8 0, Value.int .u8 0, Value.int .u8 0, Value.int .u8 0, Value.int .u8 0, Value.int .u8 0, Value.int .u8 0,
    Value.int .u8 0, Value.int .u8 0, Value.int .u8 0, Value.int .u8 0, Value.int .u8 0, Value.int .u8 0, Value.int .u8 0, Value.int .u8 0, Value.int .u8 0, Value.int .u8 0] : Array Value) = Array.replicate 20 (Value.int .u8 0) := rfl
  rw [this, Array.getElem?_replicate, if_pos h]

/-- What stands in the row: from place 'at' on the digits acc. -/
structure DigRow (B at' : Nat) (acc : List UInt8) (wr : World) : Prop where
  len : at' + acc.length = 20
  cell : ∀ j (h : j < acc.length), wr.cell? ⟨B, at' + j, none⟩ = some (.int .u8 (acc[j].toNat : Int))
  low : ∀ j, j < at' → ∃ n : Int, wr.cell? ⟨B, j, none⟩ = some (.int .u8 n)
  free : ∀ j, wr.frozen? ⟨B, j, none⟩ = false

theorem DigRow.store {B a : Nat} {acc : List UInt8} {wr : World} (h : DigRow B (a + 1) acc wr) (c : UInt8) : DigRow B a (c :: acc) (wr.setCell ⟨B, a, none⟩ (.int .u8 (c.toNat : Int))) := by
  obtain ⟨n, hn⟩ := h.low a (by omega)
  refine ⟨by have := h.len; simp; omega, fun j hj => ?_, fun j hj => ?_, fun j => by rw [World.frozen?_setCell]; exact h.free j⟩
  · cases j with
    | zero => exact World.cell?_setCell_same _ _ _ hn
    | succ j =>
      rw [World.cell?_setCell_other _ _ _ _ (by simp), show a + (j + 1) = a + 1 + j from by omega, h.cell j (by simpa using hj)]
      rfl
  · obtain ⟨m, hm⟩ := h.low j (by omega)
    exact ⟨m, by rw [World.cell?_setCell_other _ _ _ _ (by intro e; injection e with _ e; omega), hm]⟩

theorem DigRow.string {P : Program} {B a cap : Nat} {acc : List UInt8} {wr : World} {src dst e : TypeId} (h : DigRow B a acc wr) (hs : P.underlying src = some (.slice e)) (he : P.underlying e = some (.int .u8)) (hd : P.underlying dst = some .string) :
    (convert src dst (.slice (some ⟨B, a, none⟩) acc.length cap)).run P wr = .ok (.string ⟨acc.toArray⟩) wr :=
  run_convert_bytes_back (P := P) wr src dst e ⟨B, a, none⟩ cap acc hs he hd fun j hj => by
    rw [show (⟨B, a, none⟩ : Addr).add j = ⟨B, a + j, none⟩ from by rw [Addr.add_lit]]
    exact h.cell j hj

theorem Try.arr20 : Try.prog.underlying 155 = some (.array (Try.prog.arrayLen 155) (Try.prog.elem 155)) := by kernel_rfl
theorem Try.len20 : Try.prog.arrayLen 155 = 20 := by kernel_rfl
theorem Try.size20 (w : World) : (sizeOf (Try.prog.elem 155)).run Try.prog w = .ok 1 w := by kernel_rfl
theorem row_slice (B a : Nat) (h : a < 20) (w : World) : (Instr.sliceAt 155 (.pointer (some ⟨B, 0, none⟩)) (some (.int .i64 a)) none none).run Try.prog w = .ok (.slice (some ⟨B, a, none⟩) (20 - a) (20 - a)) w := by
  rw [run_sliceAt_array_l w 155 ⟨B, 0, none⟩ Try.arr20 .i64 a (by omega) (by rw [Try.len20]; omega), Try.size20]
  simp only [Result.andThen, slicedAt, Try.len20, Int.toNat_natCast]
  rw [if_neg (by omega), Addr.add_lit]
  simp
theorem signs_at (d : Nat) (h : d < 16) (h' : d < (⟨#[48, 49, 50, 51, 52, 53, 54, 55, 56, 57, 97, 98, 99, 100, 101, 102]⟩ : ByteArray).size) :
    ((⟨#[48, 49, 50, 51, 52, 53, 54, 55, 56, 57, 97, 98, 99, 100, 101, 102]⟩ : ByteArray)[d]'h') = sgn d := by
  have : ∀ d, (h : d < 16) → ((⟨#[48, 49, 50, 51, 52, 53, 54, 55, 56, 57, 97, 98, 99, 100, 101, 102]⟩ : ByteArray)[d]'h) = sgn d := by decide +kernel
  exact this d h

set_option maxRecDepth 100000 in
set_option maxHeartbeats 1000000 in
theorem write_10_any (n : Nat) (wide : Int) (w : World) (hn : n < 18446744073709551616) (hw0 : 1 ≤ wide) (hw1 : wide ≤ 20) :
    Calls Try.prog 113 #[.int .u64 n, .int .u64 10, .int .i64 wide] w fun e w' => e = .returned (.string ⟨(wdig 10 wide.toNat n).toArray⟩) ∧ Below w.heap.size w w' := by
  obtain ⟨wd, rfl⟩ := Int.eq_ofNat_of_zero_le (show 0 ≤ wide by omega)
  rw [Int.toNat_natCast]
  go_enter Try.func113, Try.ntmps113
  go_wp2
  go_outline
  go_loopw [0, 8] (fun v0 v8 wr => ∃ (m a : Nat) (acc : List UInt8), v0 = .int .u64 m ∧ v8 = .int .i64 a ∧ a ≤ 20 ∧ m * 10 ^ (20 - a) ≤ n ∧ wdigAux 10 wd a m acc = wdig 10 wd n ∧ DigRow w.heap.size a acc wr ∧ Below w.heap.size w wr) (fun _ i _ => (intOf i).toNat)
  case atStart =>
    refine ⟨n, 20, [], rfl, rfl, Nat.le_refl _, by simp, rfl, ⟨rfl, fun j h => by simp at h, fun j hj => ?_, fun j => ?_⟩, (Below.refl _ _).alloc (Nat.le_refl _) _⟩
    · exact ⟨0, by rw [World.cell?_alloc_at _ _ _ _ rfl]; exact zeros20 j hj⟩
    · exact World.frozen?_alloc_at _ _ _ _ rfl
  case round =>
    obtain ⟨m, a, acc, rfl, rfl, ha, hp, hd, hrow, hbel⟩ := hrel
    have HP := Lib.hid hp
    have HD := Lib.hid hd
    have hlen := hrow.len
    clear hp hd
    by_cases hgo : 0 < m ∨ acc.length < wd
    · have ha1 : 1 ≤ a := by
        rcases hgo with h | h
        · by_cases h1 : 1 ≤ a
          · exact h1
          · exact absurd (pow_room (by omega) HP.out h hn (by omega)) id
        · omega
      obtain ⟨a, rfl⟩ : ∃ a', a = a' + 1 := ⟨a - 1, by omega⟩
      obtain ⟨x, hx⟩ := hrow.low a (by omega)
      have hfr := hrow.free a
      have hmn : (m : Int) ≤ 18446744073709551615 := by
        have := Nat.le_mul_of_pos_right m (show 0 < 10 ^ (20 - (a + 1)) from Nat.pow_pos (by omega))
        have := HP.out
        omega
      have hg2 : 0 < m ∨ ((m : Int) ≤ 0 ∧ (20 : Int) - (a + 1) < wd) := by omega
      rcases hg2 with hg | ⟨hg, hg2⟩
      · go_wp2
        go_roundw
        case rel =>
          refine ⟨m / 10, a, sgn (m % 10) :: acc, by simp, rfl, by omega, ?_, ?_, ?_, hbel.setCell (Nat.le_refl _) _⟩
          · have := pow_step (b := 10) (by omega) HP.out
            rwa [show 20 - (a + 1) + 1 = 20 - a from by omega] at this
          · rw [← HD.out]; exact (wdigAux_step hgo).symm
          · rw [signs_at _ (by omega)]; exact hrow.store _
        case measure => simp [intOf]
      · obtain rfl : m = 0 := by omega
        clear hg
        go_wp2
        go_roundw
        case rel =>
          refine ⟨0, a, sgn 0 :: acc, rfl, rfl, by omega, by simp, ?_, ?_, hbel.setCell (Nat.le_refl _) _⟩
          · rw [← HD.out]; exact (wdigAux_step hgo).symm
          · exact hrow.store (sgn 0)
        case measure => simp [intOf]
    · have e1 : (m : Int) = 0 := by omega
      have e2 : (wd : Int) ≤ 20 - a := by omega
      have ha2 : a < 20 := by omega
      have hsl := fun wx => row_slice w.heap.size a ha2 wx
      have hal : 20 - a = acc.length := by omega
      rw [hal] at hsl
      have hcv := hrow.string (P := Try.prog) (cap := acc.length) (src := 91) (dst := 9) Try.underlying91 Try.underlying5 Try.underlying9
      have HD2 := Lib.hid ((wdigAux_stop (b := 10) (f := a) (show ¬ (0 < m ∨ acc.length < wd) from hgo)).symm.trans HD.out)
      clear hal
      go_wp2
      go_ret
      exact ⟨ret_str (by rw [← HD2.out]), hbel⟩

set_option maxRecDepth 100000 in
set_option maxHeartbeats 1000000 in
theorem write_16_any (n : Nat) (wide : Int) (w : World) (hn : n < 18446744073709551616) (hw0 : 1 ≤ wide) (hw1 : wide ≤ 20) :
    Calls Try.prog 113 #[.int .u64 n, .int .u64 16, .int .i64 wide] w fun e w' => e = .returned (.string ⟨(wdig 16 wide.toNat n).toArray⟩) ∧ Below w.heap.size w w' := by
  obtain ⟨wd, rfl⟩ := Int.eq_ofNat_of_zero_le (show 0 ≤ wide by omega)
  rw [Int.toNat_natCast]
  go_enter Try.func113, Try.ntmps113
  go_wp2
  go_outline
  go_loopw [0, 8] (fun v0 v8 wr => ∃ (m a : Nat) (acc : List UInt8), v0 = .int .u64 m ∧ v8 = .int .i64 a ∧ a ≤ 20 ∧ m * 16 ^ (20 - a) ≤ n ∧ wdigAux 16 wd a m acc = wdig 16 wd n ∧ DigRow w.heap.size a acc wr ∧ Below w.heap.size w wr) (fun _ i _ => (intOf i).toNat)
  case atStart =>
    refine ⟨n, 20, [], rfl, rfl, Nat.le_refl _, by simp, rfl, ⟨rfl, fun j h => by simp at h, fun j hj => ?_, fun j => ?_⟩, (Below.refl _ _).alloc (Nat.le_refl _) _⟩
    · exact ⟨0, by rw [World.cell?_alloc_at _ _ _ _ rfl]; exact zeros20 j hj⟩
    · exact World.frozen?_alloc_at _ _ _ _ rfl
  case round =>
    obtain ⟨m, a, acc, rfl, rfl, ha, hp, hd, hrow, hbel⟩ := hrel
    have HP := Lib.hid hp
    have HD := Lib.hid hd
    have hlen := hrow.len
    clear hp hd
    by_cases hgo : 0 < m ∨ acc.length < wd
    · have ha1 : 1 ≤ a := by
        rcases hgo with h | h
        · by_cases h1 : 1 ≤ a
          · exact h1
          · exact absurd (pow_room (by omega) HP.out h hn (by omega)) id
        · omega
      obtain ⟨a, rfl⟩ : ∃ a', a = a' + 1 := ⟨a - 1, by omega⟩
      obtain ⟨x, hx⟩ := hrow.low a (by omega)
      have hfr := hrow.free a
      have hmn : (m : Int) ≤ 18446744073709551615 := by
        have := Nat.le_mul_of_pos_right m (show 0 < 16 ^ (20 - (a + 1)) from Nat.pow_pos (by omega))
        have := HP.out
        omega
      have hg2 : 0 < m ∨ ((m : Int) ≤ 0 ∧ (20 : Int) - (a + 1) < wd) := by omega
      rcases hg2 with hg | ⟨hg, hg2⟩
      · go_wp2
        go_roundw
        case rel =>
          refine ⟨m / 16, a, sgn (m % 16) :: acc, by simp, rfl, by omega, ?_, ?_, ?_, hbel.setCell (Nat.le_refl _) _⟩
          · have := pow_step (b := 16) (by omega) HP.out
            rwa [show 20 - (a + 1) + 1 = 20 - a from by omega] at this
          · rw [← HD.out]; exact (wdigAux_step hgo).symm
          · rw [signs_at _ (by omega)]; exact hrow.store _
        case measure => simp [intOf]
      · obtain rfl : m = 0 := by omega
        clear hg
        go_wp2
        go_roundw
        case rel =>
          refine ⟨0, a, sgn 0 :: acc, rfl, rfl, by omega, by simp, ?_, ?_, hbel.setCell (Nat.le_refl _) _⟩
          · rw [← HD.out]; exact (wdigAux_step hgo).symm
          · exact hrow.store (sgn 0)
        case measure => simp [intOf]
    · have e1 : (m : Int) = 0 := by omega
      have e2 : (wd : Int) ≤ 20 - a := by omega
      have ha2 : a < 20 := by omega
      have hsl := fun wx => row_slice w.heap.size a ha2 wx
      have hal : 20 - a = acc.length := by omega
      rw [hal] at hsl
      have hcv := hrow.string (P := Try.prog) (cap := acc.length) (src := 91) (dst := 9) Try.underlying91 Try.underlying5 Try.underlying9
      have HD2 := Lib.hid ((wdigAux_stop (b := 16) (f := a) (show ¬ (0 < m ∨ acc.length < wd) from hgo)).symm.trans HD.out)
      clear hal
      go_wp2
      go_ret
      exact ⟨ret_str (by rw [← HD2.out]), hbel⟩
end Go.Proofs.Ytpgnekejemockaa
namespace Go.Proofs.Ytpgnekejemockaa
open Go.RowKit
set_option linter.unusedVariables false
set_option linter.unusedSimpArgs false

theorem foldl_lin (b : Nat) : ∀ (l : List UInt8) (a : Nat), l.foldl (fun a c => a * b + digV c.toNat) a = a * b ^ l.length + valN b l
  | [], a => by simp [valN]
  | c :: l, a => by
    have e1 := foldl_lin b l (a * b + digV c.toNat)
    have e2 : valN b (c :: l) = (0 * b + digV c.toNat) * b ^ l.length + valN b l := by rw [valN, List.foldl_cons]; exact foldl_lin b l (0 * b + digV c.toNat)
    rw [List.foldl_cons, e1, e2, List.length_cons, Nat.pow_succ, Nat.add_mul, Nat.mul_comm (b ^ l.length) b, ← Nat.mul_assoc]
    simp only [Nat.zero_mul, Nat.zero_add]
    omega
theorem valN_cons (b : Nat) (c : UInt8) (l : List UInt8) : valN b (c :: l) = digV c.toNat * b ^ l.length + valN b l := by
  have := foldl_lin b l (0 * b + digV c.toNat)
  rw [valN, List.foldl_cons, this]
  simp

theorem wdigAux_len (b wide : Nat) : ∀ (f n : Nat) (acc : List UInt8), acc.length ≤ (wdigAux b wide f n acc).length
  | 0, n, acc => Nat.le_refl _
  | f + 1, n, acc => by
    rw [wdigAux]
    split
    · have := wdigAux_len b wide f (n / b) (sgn (n % b) :: acc)
      simp at this; omega
    · exact Nat.le_refl _
theorem wdigAux_val (b wide : Nat) (hb : 2 ≤ b) (hb2 : b ≤ 16) : ∀ (f n : Nat) (acc : List UInt8), n < b ^ f → valN b (wdigAux b wide f n acc) = n * b ^ acc.length + valN b acc
  | 0, n, acc, h => by
    have : n = 0 := by simpa using h
    subst this; simp [wdigAux]
  | f + 1, n, acc, h => by
    rw [wdigAux]
    split
    · have hlt : n / b < b ^ f := by
        rw [Nat.div_lt_iff_lt_mul (by omega)]
        rwa [Nat.pow_succ] at h
      rw [wdigAux_val b wide hb hb2 f (n / b) _ hlt, valN_cons, digV_sgn _ (by have := Nat.mod_lt n (show 0 < b by omega); omega), List.length_cons, Nat.pow_succ, Nat.mul_comm (b ^ acc.length) b, ← Nat.mul_assoc]
      have e : n = n / b * b + n % b := by have := Nat.div_add_mod n b; rw [Nat.mul_comm] at this; omega
      have e2 : n * b ^ acc.length = n / b * b * b ^ acc.length + n % b * b ^ acc.length := by rw [← Nat.add_mul, ← e]
      omega
    · have : n = 0 := by omega
      subst this; simp
theorem wdigAux_ok (b wide : Nat) (hb : 2 ≤ b) (hb2 : b ≤ 16) : ∀ (f n : Nat) (acc : List UInt8), (∀ c ∈ acc, digV c.toNat < b) → ∀ c ∈ wdigAux b wide f n acc, digV c.toNat < b
  | 0, n, acc, h => h
  | f + 1, n, acc, h => by
    rw [wdigAux]
    split
    · refine wdigAux_ok b wide hb hb2 f _ _ fun c hc => ?_
      rcases List.mem_cons.1 hc with rfl | hc
      · have := Nat.mod_lt n (show 0 < b by omega)
        rw [digV_sgn _ (by omega)]; exact this
      · exact h c hc
    · exact h

theorem wdig_val (b wide n : Nat) (hb : 10 ≤ b) (hb2 : b ≤ 16) (hn : n < 18446744073709551616) : valN b (wdig b wide n) = n := by
  have h1 : 10 ^ 20 ≤ b ^ 20 := Nat.pow_le_pow_left hb 20
  rw [wdig, wdigAux_val b wide (by omega) hb2 20 n [] (by omega)]
  simp [valN]
theorem wdig_ok (b wide n : Nat) (hb : 10 ≤ b) (hb2 : b ≤ 16) : ∀ c ∈ wdig b wide n, digV c.toNat < b := wdigAux_ok b wide (by omega) hb2 20 n [] (by simp)
theorem wdig_ne (b wide n : Nat) (hw : 1 ≤ wide) : wdig b wide n ≠ [] := by
  intro h
  have h1 := wdigAux_step (b := b) (wide := wide) (f := 19) (n := n) (acc := []) (.inr hw)
  have h2 := wdigAux_len b wide 19 (n / b) [sgn (n % b)]
  rw [← h1] at h2
  have h3 : wdigAux b wide (19 + 1) n [] = [] := h
  rw [h3] at h2
  simp at h2

theorem wdigAux_len2 (b wide : Nat) : ∀ (f n : Nat) (acc : List UInt8), (wdigAux b wide f n acc).length ≤ acc.length + f
  | 0, n, acc => Nat.le_refl _
  | f + 1, n, acc => by
    rw [wdigAux]
    split
    · have := wdigAux_len2 b wide f (n / b) (sgn (n % b) :: acc)
      simp at this; omega
    · omega
theorem wdig_len (b wide n : Nat) : (wdig b wide n).length ≤ 20 := by
  have := wdigAux_len2 b wide 20 n []
  simpa [wdig] using this

def ofL (l : List UInt8) : ByteArray := ⟨l.toArray⟩
def textL (n : Int) : List UInt8 := if n < 0 then 45 :: wdig 10 1 (-n).toNat else wdig 10 1 n.toNat
def hexL (n : Int) : List UInt8 := if n < 0 then [] else wdig 16 1 n.toNat
def padL (n wide : Int) : List UInt8 := if n < 0 then textL n else wdig 10 (max 1 (min wide 20)).toNat n.toNat
theorem ofL_size (l : List UInt8) : (ofL l).size = l.length := by simp [ofL, ba_size]
theorem textL_len (n : Int) : (textL n).length ≤ 21 := by
  unfold textL
  split
  · have := wdig_len 10 1 (-n).toNat; simp; omega
  · have := wdig_len 10 1 n.toNat; omega

theorem u64_neg {n : Int} (h0 : -9223372036854775808 ≤ n) (h : n < 0) : IntKind.u64.wrap (-IntKind.u64.wrap n) = (((-n).toNat : Nat) : Int) := by
  simp [IntKind.wrap, IntKind.signed, IntKind.bits]; omega

set_option maxHeartbeats 400000 in
theorem hextext_any (n : Int) (w : World) (h0 : -9223372036854775808 ≤ n) (h1 : n ≤ 9223372036854775807) :
    Calls Try.prog 83 #[.int .i64 n] w fun e w' => e = .returned (.string (ofL (hexL n))) ∧ Below w.heap.size w w' := by
  by_cases hn : n < 0
  · have ht : hexL n = [] := by unfold hexL; rw [if_pos hn]
    rw [ht]
    clear ht
    go_enter Try.func83, Try.ntmps83
    go_wp2
    go_ret
    exact ⟨rfl, Below.refl _ _⟩
  · obtain ⟨m, rfl⟩ := Int.eq_ofNat_of_zero_le (show 0 ≤ n by omega)
    have ht : hexL m = wdig 16 1 m := by unfold hexL; rw [if_neg hn, Int.toNat_natCast]
    rw [ht]
    clear ht
    go_enter Try.func83, Try.ntmps83
    go_wp2_with fail
    refine (write_16_any _ _ _ (by omega) (by omega) (by omega)).mono ?_
    rintro e w1 ⟨rfl, hb1⟩
    go_wp2_with fail
    go_ret
    exact ⟨rfl, hb1⟩

theorem ex2_hex : numV 16 ⟨#[49, 102]⟩ 100 = 31 ∧ numE 16 ⟨#[49, 102]⟩ 100 = 0 := by decide +kernel
theorem ex2_dec : numV 10 ⟨#[48, 48, 55]⟩ 6 = 0 ∧ numE 10 ⟨#[48, 48, 55]⟩ 6 = 5 := by decide +kernel
theorem ex2_pad : ofL (padL 7 2) = ⟨#[48, 55]⟩ := by decide +kernel
theorem ex2_hext : ofL (hexL 255) = ⟨#[102, 102]⟩ := by decide +kernel
theorem ex2_text : ofL (textL (-5)) = ⟨#[45, 53]⟩ := by decide +kernel

end Go.Proofs.Ytpgnekejemockaa
