/- Texts read from their beginning: what a cursor keeps; Left, Done, Byte. -/
import Derived.Test.YtjocmjmfkgogiaaCua
import Derived.Test.YtjocmjmfkgogiaaOcto
import Derived.Deep.QuietTactic
import Derived.BigQuiet
namespace Go.Proofs.Ytjocmjmfkgogiaa
open Go.RowKit
set_option linter.unusedVariables false
set_option linter.unusedSimpArgs false

theorem below_drewN (w : World) (n : Nat) : Below w.heap.size w (w.drewN n) := ⟨rfl, rfl, rfl, Nat.le_refl _, fun _ _ => rfl⟩
theorem bcell {W w1 : World} (hb : Below W.heap.size W w1) : (∀ b o, b < W.heap.size → w1.cell? ⟨b, o, none⟩ = W.cell? ⟨b, o, none⟩) ∧ (∀ b o, b < W.heap.size → w1.frozen? ⟨b, o, none⟩ = W.frozen? ⟨b, o, none⟩) :=
  ⟨fun b o h => hb.cell (p := ⟨b, o, none⟩) h, fun b o h => hb.frozen (p := ⟨b, o, none⟩) h⟩

/-- All is as it was but for block b, and what is new. -/
structure But (b : Nat) (w w' : World) : Prop where
  os : w'.os = w.os
  tape : w'.tape = w.tape
  output : w'.output = w.output
  size : w.heap.size ≤ w'.heap.size
  block : ∀ k, k < w.heap.size → k ≠ b → w'.heap[k]? = w.heap[k]?
theorem But.of {b : Nat} {w w' : World} (h : Below w.heap.size w w') : But b w w' := ⟨h.os, h.tape, h.output, h.size, fun k hk _ => h.block k hk⟩
theorem But.trans {b : Nat} {u v w : World} (h : But b u v) (k : But b v w) : But b u w :=
  ⟨k.os.trans h.os, k.tape.trans h.tape, k.output.trans h.output, Nat.le_trans h.size k.size, fun i hi hb => (k.block i (Nat.lt_of_lt_of_le hi h.size) hb).trans (h.block i hi hb)⟩
theorem But.below {b B : Nat} {w w' : World} (h : But b w w') (hB : B ≤ b) (hw : B ≤ w.heap.size) : Below B w w' :=
  ⟨h.os, h.tape, h.output, h.size, fun k hk => h.block k (by omega) (by omega)⟩
theorem But.setCell {b : Nat} {w w' : World} (h : But b w w') (o : Nat) (v : Value) : But b w (w'.setCell ⟨b, o, none⟩ v) :=
  ⟨h.os, h.tape, h.output, by simp [World.setCell]; exact h.size, fun k hk hb => (Below.heap_setCell _ _ _ _ hb).trans (h.block k hk hb)⟩
theorem But.cell {b : Nat} {w w' : World} (h : But b w w') {p : Addr} (hp : p.block < w.heap.size) (hb : p.block ≠ b) : w'.cell? p = w.cell? p := World.cell?_of_block (w := w) (h.block p.block hp hb)
theorem But.frozen {b : Nat} {w w' : World} (h : But b w w') {p : Addr} (hp : p.block < w.heap.size) (hb : p.block ≠ b) : w'.frozen? p = w.frozen? p := World.frozen?_of_block (w := w) (h.block p.block hp hb)

/-- A cursor of the text s, n octets taken, lies in block b. -/
structure CurAt (b : Nat) (s : ByteArray) (n : Nat) (w : World) : Prop where
  txt : w.cell? ⟨b, 0, none⟩ = some (.string s)
  pos : w.cell? ⟨b, 1, none⟩ = some (.int .i64 n)
  free : w.frozen? ⟨b, 1, none⟩ = false
  lt : b < w.heap.size
  le : n ≤ s.size
  small : s.size ≤ 9223372036854775807
  blk : w.heap[b]? = some (.cells #[.string s, .int .i64 n] 73 (0, 0))
theorem CurAt.kept {b n : Nat} {s : ByteArray} {w w' : World} (h : CurAt b s n w) (hb : Below w.heap.size w w') : CurAt b s n w' :=
  ⟨by rw [(bcell hb).1 b 0 h.lt]; exact h.txt, by rw [(bcell hb).1 b 1 h.lt]; exact h.pos, by rw [(bcell hb).2 b 1 h.lt]; exact h.free, Nat.lt_of_lt_of_le h.lt hb.size, h.le, h.small, (hb.block b h.lt).trans h.blk⟩
theorem CurAt.set {b n m : Nat} {s : ByteArray} {w : World} (h : CurAt b s n w) (hm : m ≤ s.size) : CurAt b s m (w.setCell ⟨b, 1, none⟩ (.int .i64 m)) :=
  ⟨by rw [World.cell?_setCell_other _ _ _ _ (by simp)]; exact h.txt, by rw [World.cell?_setCell_same _ _ _ h.pos], by rw [World.frozen?_setCell]; exact h.free, by simp [World.setCell]; exact h.lt, hm, h.small, by simp [World.setCell, Array.getElem?_modify, h.blk]⟩
/-- What is left. -/
def leftB (s : ByteArray) (n : Nat) : ByteArray := fromB s n
/-- The cursor in b has m octets taken now, and nothing else has turned. -/
def CurTo (b : Nat) (s : ByteArray) (m : Nat) (w w' : World) : Prop := But b w w' ∧ CurAt b s m w'

set_option maxHeartbeats 800000 in
theorem cur_left (b n : Nat) (s : ByteArray) (w : World) (h : CurAt b s n w) :
    Calls Try.prog 23 #[.pointer (some ⟨b, 0, none⟩)] w fun e w' => e = .returned (.string (fromB s n)) ∧ Below w.heap.size w w' := by
  obtain ⟨h0, h1, h2, h3, h4, h5, h6⟩ := h
  clear h6
  have hq : (0 : Int) ≤ (n : Int) := by omega
  have hq2 : (n : Int) ≤ (s.size : Int) := by omega
  go_enter Try.func23, Try.ntmps23
  go_wp2_with fail
  go_quiet (fail)
  go_wp2_with fail
  go_ret
  exact ⟨rfl, below_drewN _ _⟩
theorem cur_left_none (w : World) :
    Calls Try.prog 23 #[.pointer none] w fun e w' => e = .returned (.string ⟨#[]⟩) ∧ Below w.heap.size w w' := by
  go_enter Try.func23, Try.ntmps23
  go_wp2_with fail
  go_ret
  exact ⟨rfl, Below.refl _ _⟩
theorem emp_iff (s : ByteArray) : s.toList.isEmpty = decide (s.size = 0) := by
  rw [ByteArray.toList_eq, Bool.eq_iff_iff, decide_eq_true_eq, ba_size, List.isEmpty_iff_length_eq_zero]
theorem cur_done (b n : Nat) (s : ByteArray) (w : World) (h : CurAt b s n w) :
    Calls Try.prog 24 #[.pointer (some ⟨b, 0, none⟩)] w fun e w' => e = .returned (.bool (decide ((fromB s n).size = 0))) ∧ Below w.heap.size w w' := by
  have HC := Lib.hid h
  clear h
  go_enter Try.func24, Try.ntmps24
  go_wp2_with fail
  refine (cur_left _ _ _ _ HC.out).mono ?_
  rintro e w1 ⟨rfl, hb1⟩
  go_wp2_with fail
  go_ret
  exact ⟨ret_bool (by simp [emp_iff]), hb1⟩
theorem cur_done_none (w : World) :
    Calls Try.prog 24 #[.pointer none] w fun e w' => e = .returned (.bool true) ∧ Below w.heap.size w w' := by
  go_enter Try.func24, Try.ntmps24
  go_wp2_with fail
  refine (cur_left_none _).mono ?_
  rintro e w1 ⟨rfl, hb1⟩
  go_wp2_with fail
  go_ret
  exact ⟨rfl, hb1⟩

/-- Byte takes c. -/
theorem cur_byte_yes (b n : Nat) (s : ByteArray) (c : Int) (w : World) (h : CurAt b s n w) (hn : n < s.size) (hc : (bt s n : Int) = c) :
    Calls Try.prog 14 #[.pointer (some ⟨b, 0, none⟩), .int .u8 c] w fun e w' => e = .returned (.bool true) ∧ CurTo b s (n + 1) w w' := by
  have HC := Lib.hid h
  have hl : 0 < (fromB s n).size := by rw [fromB_size]; omega
  have hx : (((fromB s n)[0].toNat : Int) == c) = true := by rw [bt_at, fromB_bt s n 0 (by omega)]; simpa using hc
  have hx2 : (((fromB s n)[0].toNat : Int) != c) = false := by rw [bne, hx]; rfl
  have he : (fromB s n).toList.isEmpty = false := by rw [emp_iff, decide_eq_false_iff_not]; omega
  have h4 := h.le
  have h5 := h.small
  have HN := Lib.hid hn
  clear h hc hn
  go_enter Try.func14, Try.ntmps14
  go_wp2_with fail
  refine (cur_left _ _ _ _ HC.out).mono ?_
  rintro e w1 ⟨rfl, hb1⟩
  have HC1 := Lib.hid (HC.out.kept hb1)
  have g1 := HC1.out.pos
  have g2 := HC1.out.free
  have hn' : n < s.size := HN.out
  go_wp2_with fail
  go_ret
  exact ⟨rfl, (But.of hb1).setCell _ _, HC1.out.set (by omega)⟩
theorem cur_byte_no (b n : Nat) (s : ByteArray) (c : Int) (w : World) (h : CurAt b s n w) (hc : n < s.size → ¬ (bt s n : Int) = c) :
    Calls Try.prog 14 #[.pointer (some ⟨b, 0, none⟩), .int .u8 c] w fun e w' => e = .returned (.bool false) ∧ Below w.heap.size w w' := by
  have HC := Lib.hid h
  have h5 := h.small
  have h4 := h.le
  by_cases hn : n < s.size
  · have hl : 0 < (fromB s n).size := by rw [fromB_size]; omega
    have hx : (((fromB s n)[0].toNat : Int) == c) = false := by rw [bt_at, fromB_bt s n 0 (by omega)]; simpa using hc hn
    have hx2 : (((fromB s n)[0].toNat : Int) != c) = true := by rw [bne, hx]; rfl
    have he : (fromB s n).toList.isEmpty = false := by rw [emp_iff, decide_eq_false_iff_not]; omega
    clear h hc hn
    go_enter Try.func14, Try.ntmps14
    go_wp2_with fail
    refine (cur_left _ _ _ _ HC.out).mono ?_
    rintro e w1 ⟨rfl, hb1⟩
    go_wp2_with fail
    go_ret
    exact ⟨rfl, hb1⟩
  · have he : (fromB s n).toList = [] := by rw [ByteArray.toList_eq, ← List.length_eq_zero_iff, ← ba_size, fromB_size]; omega
    clear h hc hn
    go_enter Try.func14, Try.ntmps14
    go_wp2_with fail
    refine (cur_left _ _ _ _ HC.out).mono ?_
    rintro e w1 ⟨rfl, hb1⟩
    go_wp2_with fail
    go_ret
    exact ⟨rfl, hb1⟩
theorem cur_byte_none (c : Int) (w : World) :
    Calls Try.prog 14 #[.pointer none, .int .u8 c] w fun e w' => e = .returned (.bool false) ∧ Below w.heap.size w w' := by
  go_enter Try.func14, Try.ntmps14
  go_wp2_with fail
  refine (cur_left_none _).mono ?_
  rintro e w1 ⟨rfl, hb1⟩
  go_wp2_with fail
  go_ret
  exact ⟨rfl, hb1⟩
end Go.Proofs.Ytjocmjmfkgogiaa
