/- Texts read from their beginning, as plain functions (layer 4). · Texts read from their beginning: what a cursor keeps; Left, Done, Byte. · Texts read from their beginning: Skip, Token, Until. · Texts read from their beginning: Skip, Token, Until, and the document's. · Texts read from their beginning: quoted texts. · Texts read from their beginning: quoted texts, as the document has them. · Texts read from their beginning: texts that are quoted. · Texts read from their beginning: the document's examples; the laws CursorQuotes and CursorBack. -/
import Derived.Test.YtgamekfickheaaaGreatPb
import Derived.Test.YtgamekfickheaaaGreatKeeps
import Derived.Deep.QuietTactic
import Derived.BigQuiet
import Derived.Test.YtgamekfickheaaaGreatTxt
import Derived.Lib.AppendStr
namespace Go.Proofs.YtgamekfickheaaaGreat
open Go.RowKit
set_option linter.unusedVariables false
set_option linter.unusedSimpArgs false

/-- How many octets come first that fit. -/
def preLC (P : Nat → Bool) (l : List UInt8) : Nat := (l.takeWhile fun c => P c.toNat).length
def preN (P : Nat → Bool) (s : ByteArray) : Nat := preLC P s.data.toList
theorem preL_le (P : Nat → Bool) (l : List UInt8) : preLC P l ≤ l.length := by
  unfold preLC
  induction l with
  | nil => simp
  | cons c l ih => rw [List.takeWhile_cons]; split <;> simp <;> omega
theorem preN_le (P : Nat → Bool) (s : ByteArray) : preN P s ≤ s.size := by rw [ba_size]; exact preL_le P _
theorem preL_of (P : Nat → Bool) : ∀ (l : List UInt8) (k : Nat), k ≤ l.length → (∀ j (h : j < l.length), j < k → P (l[j]).toNat = true) → (k = l.length ∨ ∃ h : k < l.length, P (l[k]).toNat = false) → preLC P l = k
  | [], k, h, _, _ => by simp at h; subst h; rfl
  | c :: l, 0, _, _, h => by
    rcases h with h | ⟨_, h⟩
    · simp at h
    · unfold preLC; rw [List.takeWhile_cons]; simp at h; simp [h]
  | c :: l, k + 1, hk, h1, h2 => by
    have h0 := h1 0 (by simp) (by omega)
    have ih := preL_of P l k (by simp at hk; omega) (fun j h hj => by have := h1 (j + 1) (by simp; omega) (by omega); simpa using this) (by
      rcases h2 with h2 | ⟨h, h2⟩
      · left; simp at h2; omega
      · right; exact ⟨by simp at h; omega, by simpa using h2⟩)
    unfold preLC at *
    rw [List.takeWhile_cons]
    simp at h0
    simp [h0, ih]
theorem preN_of {P : Nat → Bool} {s : ByteArray} {k : Nat} (hk : k ≤ s.size) (h1 : ∀ j, j < k → P (bt s j) = true) (h2 : k = s.size ∨ (k < s.size ∧ P (bt s k) = false)) : preN P s = k := by
  unfold preN
  refine preL_of P _ k (by rw [← ba_size]; exact hk) (fun j h hj => by rw [bt_list s j (by omega)]; exact h1 j hj) ?_
  rcases h2 with h2 | ⟨h, h2⟩
  · left; rw [← ba_size]; exact h2
  · right; exact ⟨by rw [← ba_size]; exact h, by rw [bt_list s k h]; exact h2⟩
theorem preN_in {P : Nat → Bool} {s : ByteArray} {j : Nat} (h : j < preN P s) : P (bt s j) = true := by
  have hs : j < s.size := by have := preN_le P s; omega
  have key : ∀ (l : List UInt8) (j : Nat) (hj : j < l.length), j < preLC P l → P (l[j]).toNat = true := by
    intro l
    induction l with
    | nil => intro j hj; simp at hj
    | cons c l ih =>
      intro j hj hp
      unfold preLC at hp
      rw [List.takeWhile_cons] at hp
      split at hp
      · rename_i hc
        cases j with
        | zero => simpa using hc
        | succ j => simpa using ih j (by simp at hj; omega) (by unfold preLC; simp at hp; omega)
      · simp at hp
  have := key s.data.toList j (by rw [← ba_size]; exact hs) h
  rwa [bt_list s j hs] at this
theorem preN_stop {P : Nat → Bool} {s : ByteArray} (h : preN P s < s.size) : P (bt s (preN P s)) = false := by
  have key : ∀ (l : List UInt8) (hj : preLC P l < l.length), P (l[preLC P l]).toNat = false := by
    intro l
    induction l with
    | nil => intro hj; simp at hj
    | cons c l ih =>
      intro hj
      cases hc : P c.toNat
      · have h0 : preLC P (c :: l) = 0 := by unfold preLC; rw [List.takeWhile_cons]; simp [hc]
        simp only [h0]; simpa using hc
      · have h0 : preLC P (c :: l) = preLC P l + 1 := by unfold preLC; rw [List.takeWhile_cons]; simp [hc]
        simp only [h0]
        have := ih (by rw [h0] at hj; simp at hj; omega)
        simpa using this
  have h' : preLC P s.data.toList < s.size := h
  have := key s.data.toList (by rw [← ba_size]; exact h)
  rw [bt_list s _ h'] at this
  exact this

/-- What is left behind the first n octets. -/
def fromB (s : ByteArray) (n : Nat) : ByteArray := s.extract n s.size
theorem fromB_list (s : ByteArray) (n : Nat) : (fromB s n).data.toList = s.data.toList.drop n := by unfold fromB; rw [Lib.extract_to_end]
theorem fromB_size (s : ByteArray) (n : Nat) : (fromB s n).size = s.size - n := by rw [ba_size, fromB_list, List.length_drop, ← ba_size]
theorem fromB_zero (s : ByteArray) : fromB s 0 = s := ba_ext (by rw [fromB_list, List.drop_zero])
theorem fromB_from (s : ByteArray) (a b : Nat) : fromB (fromB s a) b = fromB s (a + b) := ba_ext (by rw [fromB_list, fromB_list, fromB_list, List.drop_drop])
theorem fromB_bt (s : ByteArray) (n j : Nat) (h : n + j < s.size) : bt (fromB s n) j = bt s (n + j) := by
  have h1 : j < (fromB s n).size := by rw [fromB_size]; omega
  rw [← bt_list _ _ h1, ← bt_list _ _ h]
  simp [fromB_list]
/-- The first n octets. -/
def upB (s : ByteArray) (n : Nat) : ByteArray := s.extract 0 n
theorem upB_list (s : ByteArray) (n : Nat) : (upB s n).data.toList = s.data.toList.take n := by unfold upB; rw [Lib.extract_data]; simp
theorem upB_all (s : ByteArray) : upB s s.size = s := ba_ext (by rw [upB_list, List.take_of_length_le (by rw [← ba_size]; omega)])
theorem upB_zero (s : ByteArray) : upB s 0 = ⟨#[]⟩ := ba_ext (by rw [upB_list]; rfl)
theorem upB_size (s : ByteArray) (n : Nat) : (upB s n).size = min n s.size := by rw [ba_size, upB_list, List.length_take, ← ba_size]

/-! ### Quoted texts -/
/-- A quoted text's inner part: the plain one and how many octets were read; acc, n: so far. -/
def qread : List UInt8 → List UInt8 → Nat → Option (List UInt8 × Nat)
  | [], _, _ => none
  | [c], acc, n => if c.toNat = 34 then some (acc, n + 1) else none
  | c :: d :: r, acc, n =>
    if c.toNat = 34 then some (acc, n + 1)
    else if c.toNat = 92 then (if valueB d.toNat then qread r (acc ++ [d]) (n + 2) else none)
    else if valueB c.toNat then qread (d :: r) (acc ++ [c]) (n + 1) else none
def quotedL (l : List UInt8) : Option (List UInt8 × Nat) := match l with
  | [] => none
  | c :: r => if c.toNat = 34 then qread r [] 1 else none
/-- The plain text, nothing if there is none; how many octets, 0 if there is none. -/
def quotedS (s : ByteArray) : ByteArray := match quotedL s.data.toList with
  | some (l, _) => ⟨l.toArray⟩
  | none => ⟨#[]⟩
def quotedN (s : ByteArray) : Nat := match quotedL s.data.toList with
  | some (_, n) => n
  | none => 0
theorem qread_bound : ∀ (l acc : List UInt8) (n : Nat) (x : List UInt8 × Nat), qread l acc n = some x → n < x.2 ∧ x.2 ≤ n + l.length ∧ x.1.length + n < acc.length + x.2
  | [], _, _, _, h => by simp [qread] at h
  | [c], acc, n, x, h => by
    unfold qread at h
    split at h
    · cases h; simp
    · cases h
  | c :: d :: r, acc, n, x, h => by
    unfold qread at h
    split at h
    · cases h; simp
    · split at h
      · split at h
        · have := qread_bound r _ _ x h; simp at this ⊢; omega
        · cases h
      · split at h
        · have := qread_bound (d :: r) _ _ x h; simp at this ⊢; omega
        · cases h
theorem quotedN_le (s : ByteArray) : quotedN s ≤ s.size := by
  unfold quotedN
  cases h : quotedL s.data.toList with
  | none => simp
  | some x =>
    obtain ⟨l, n⟩ := x
    rw [ba_size]
    cases hl : s.data.toList with
    | nil => rw [hl] at h; simp [quotedL] at h
    | cons c r =>
      rw [hl] at h
      simp only [quotedL] at h
      split at h
      · have := qread_bound _ _ _ _ h; simp at this ⊢; omega
      · cases h

/-! ### Texts that are quoted -/
def escC (c : UInt8) : List UInt8 := if c.toNat = 34 ∨ c.toNat = 92 then [92, c] else [c]
def escL (l : List UInt8) : List UInt8 := l.flatMap escC
theorem escL_snoc (l : List UInt8) (c : UInt8) : escL (l ++ [c]) = escL l ++ escC c := by simp [escL]
theorem escL_len (l : List UInt8) : (escL l).length ≤ 2 * l.length := by
  induction l with
  | nil => simp [escL]
  | cons c l ih =>
    have h1 : escL (c :: l) = escC c ++ escL l := by simp [escL]
    have h2 : (escC c).length ≤ 2 := by unfold escC; split <;> simp
    rw [h1, List.length_append, List.length_cons]
    omega
def quoteS (s : ByteArray) : ByteArray := if tokenB s then s else if allB valueB s then ⟨(34 :: escL s.data.toList ++ [34]).toArray⟩ else ⟨#[]⟩
def quoteOk (s : ByteArray) : Bool := tokenB s || allB valueB s
end Go.Proofs.YtgamekfickheaaaGreat
namespace Go.Proofs.YtgamekfickheaaaGreat
open Go.RowKit
set_option linter.unusedVariables false
set_option linter.unusedSimpArgs false

theorem below_drewNC (w : World) (n : Nat) : Below w.heap.size w (w.drewN n) := ⟨rfl, rfl, rfl, Nat.le_refl _, fun _ _ => rfl⟩
theorem bcell {W w1 : World} (hb : Below W.heap.size W w1) : (∀ b o, b < W.heap.size → w1.cell? ⟨b, o, none⟩ = W.cell? ⟨b, o, none⟩) ∧ (∀ b o, b < W.heap.size → w1.frozen? ⟨b, o, none⟩ = W.frozen? ⟨b, o, none⟩) :=
  ⟨fun b o h => hb.cell (p := ⟨b, o, none⟩) h, fun b o h => hb.frozen (p := ⟨b, o, none⟩) h⟩

/-- All is as it was but for block b, and what is new. -/
structure But (b : Nat) (w w' : World) : Prop where
  os : w'.os = w.os
  tape : w'.tape = w.tape
  output : w'.output = w.output
  size : w.heap.size ≤ w'.heap.size
  block : ∀ k, k < w.heap.size → k ≠ b → w'.heap[k]? = w.heap[k]?
theorem But.of {b : Nat} {w w' : World} (h : Below w.heap.size w w') : But b w w' := ⟨h.os, h.tape, h.output, h.size, fun k hk _ => h.block k hk⟩
theorem But.trans {b : Nat} {u v w : World} (h : But b u v) (k : But b v w) : But b u w :=
  ⟨k.os.trans h.os, k.tape.trans h.tape, k.output.trans h.output, Nat.le_trans h.size k.size, fun i hi hb => (k.block i (Nat.lt_of_lt_of_le hi h.size) hb).trans (h.block i hi hb)⟩
theorem But.below {b B : Nat} {w w' : World} (h : But b w w') (hB : B ≤ b) (hw : B ≤ w.heap.size) : Below B w w' :=
  ⟨h.os, h.tape, h.output, h.size, fun k hk => h.block k (by omega) (by omega)⟩
theorem But.setCell {b : Nat} {w w' : World} (h : But b w w') (o : Nat) (v : Value) : But b w (w'.setCell ⟨b, o, none⟩ v) :=
  ⟨h.os, h.tape, h.output, by simp [World.setCell]; exact h.size, fun k hk hb => (Below.heap_setCell _ _ _ _ hb).trans (h.block k hk hb)⟩
theorem But.cell {b : Nat} {w w' : World} (h : But b w w') {p : Addr} (hp : p.block < w.heap.size) (hb : p.block ≠ b) : w'.cell? p = w.cell? p := World.cell?_of_block (w := w) (h.block p.block hp hb)
theorem But.frozen {b : Nat} {w w' : World} (h : But b w w') {p : Addr} (hp : p.block < w.heap.size) (hb : p.block ≠ b) : w'.frozen? p = w.frozen? p := World.frozen?_of_block (w := w) (h.block p.block hp hb)

/-- A cursor of the text s, n octets taken, lies in block b. -/
structure CurAt (b : Nat) (s : ByteArray) (n : Nat) (w : World) : Prop where
  txt : w.cell? ⟨b, 0, none⟩ = some (.string s)
  pos : w.cell? ⟨b, 1, none⟩ = some (.int .i64 n)
  free : w.frozen? ⟨b, 1, none⟩ = false
  lt : b < w.heap.size
  le : n ≤ s.size
  small : s.size ≤ 9223372036854775807
  blk : w.heap[b]? = some (.cells #[.string s, .int .i64 n] 148 (0, 0))
theorem CurAt.kept {b n : Nat} {s : ByteArray} {w w' : World} (h : CurAt b s n w) (hb : Below w.heap.size w w') : CurAt b s n w' :=
  ⟨by rw [(bcell hb).1 b 0 h.lt]; exact h.txt, by rw [(bcell hb).1 b 1 h.lt]; exact h.pos, by rw [(bcell hb).2 b 1 h.lt]; exact h.free, Nat.lt_of_lt_of_le h.lt hb.size, h.le, h.small, (hb.block b h.lt).trans h.blk⟩
theorem CurAt.set {b n m : Nat} {s : ByteArray} {w : World} (h : CurAt b s n w) (hm : m ≤ s.size) : CurAt b s m (w.setCell ⟨b, 1, none⟩ (.int .i64 m)) :=
  ⟨by rw [World.cell?_setCell_other _ _ _ _ (by simp)]; exact h.txt, by rw [World.cell?_setCell_same _ _ _ h.pos], by rw [World.frozen?_setCell]; exact h.free, by simp [World.setCell]; exact h.lt, hm, h.small, by simp [World.setCell, Array.getElem?_modify, h.blk]⟩
/-- What is left. -/
def leftB (s : ByteArray) (n : Nat) : ByteArray := fromB s n
/-- The cursor in b has m octets taken now, and nothing else has turned. -/
def CurTo (b : Nat) (s : ByteArray) (m : Nat) (w w' : World) : Prop := But b w w' ∧ CurAt b s m w'

set_option maxHeartbeats 800000 in
theorem cur_left (b n : Nat) (s : ByteArray) (w : World) (h : CurAt b s n w) :
    Calls Tryz.prog 138 #[.pointer (some ⟨b, 0, none⟩)] w fun e w' => e = .returned (.string (fromB s n)) ∧ Below w.heap.size w w' := by
  obtain ⟨h0, h1, h2, h3, h4, h5, h6⟩ := h
  clear h6
  have hq : (0 : Int) ≤ (n : Int) := by omega
  have hq2 : (n : Int) ≤ (s.size : Int) := by omega
  go_enter Tryz.func138, Tryz.ntmps138
  go_wp2_with fail
  go_quiet (fail)
  go_wp2_with fail
  go_ret
  exact ⟨rfl, below_drewNC _ _⟩
theorem cur_left_none (w : World) :
    Calls Tryz.prog 138 #[.pointer none] w fun e w' => e = .returned (.string ⟨#[]⟩) ∧ Below w.heap.size w w' := by
  go_enter Tryz.func138, Tryz.ntmps138
  go_wp2_with fail
  go_ret
  exact ⟨rfl, Below.refl _ _⟩
theorem emp_iff (s : ByteArray) : s.toList.isEmpty = decide (s.size = 0) := by
  rw [ByteArray.toList_eq, Bool.eq_iff_iff, decide_eq_true_eq, ba_size, List.isEmpty_iff_length_eq_zero]
theorem cur_done (b n : Nat) (s : ByteArray) (w : World) (h : CurAt b s n w) :
    Calls Tryz.prog 118 #[.pointer (some ⟨b, 0, none⟩)] w fun e w' => e = .returned (.bool (decide ((fromB s n).size = 0))) ∧ Below w.heap.size w w' := by
  have HC := Lib.hid h
  clear h
  go_enter Tryz.func118, Tryz.ntmps118
  go_wp2_with fail
  refine (cur_left _ _ _ _ HC.out).mono ?_
  rintro e w1 ⟨rfl, hb1⟩
  go_wp2_with fail
  go_ret
  exact ⟨ret_bool (by simp [emp_iff]), hb1⟩
theorem cur_done_none (w : World) :
    Calls Tryz.prog 118 #[.pointer none] w fun e w' => e = .returned (.bool true) ∧ Below w.heap.size w w' := by
  go_enter Tryz.func118, Tryz.ntmps118
  go_wp2_with fail
  refine (cur_left_none _).mono ?_
  rintro e w1 ⟨rfl, hb1⟩
  go_wp2_with fail
  go_ret
  exact ⟨rfl, hb1⟩

/-- Byte takes c. -/
theorem cur_byte_yes (b n : Nat) (s : ByteArray) (c : Int) (w : World) (h : CurAt b s n w) (hn : n < s.size) (hc : (bt s n : Int) = c) :
    Calls Tryz.prog 116 #[.pointer (some ⟨b, 0, none⟩), .int .u8 c] w fun e w' => e = .returned (.bool true) ∧ CurTo b s (n + 1) w w' := by
  have HC := Lib.hid h
  have hl : 0 < (fromB s n).size := by rw [fromB_size]; omega
  have hx : (((fromB s n)[0].toNat : Int) == c) = true := by rw [bt_at, fromB_bt s n 0 (by omega)]; simpa using hc
  have hx2 : (((fromB s n)[0].toNat : Int) != c) = false := by rw [bne, hx]; rfl
  have he : (fromB s n).toList.isEmpty = false := by rw [emp_iff, decide_eq_false_iff_not]; omega
  have h4 := h.le
  have h5 := h.small
  have HN := Lib.hid hn
  clear h hc hn
  go_enter Tryz.func116, Tryz.ntmps116
  go_wp2_with fail
  refine (cur_left _ _ _ _ HC.out).mono ?_
  rintro e w1 ⟨rfl, hb1⟩
  have HC1 := Lib.hid (HC.out.kept hb1)
  have g1 := HC1.out.pos
  have g2 := HC1.out.free
  have hn' : n < s.size := HN.out
  go_wp2_with fail
  go_ret
  exact ⟨rfl, (But.of hb1).setCell _ _, HC1.out.set (by omega)⟩
theorem cur_byte_no (b n : Nat) (s : ByteArray) (c : Int) (w : World) (h : CurAt b s n w) (hc : n < s.size → ¬ (bt s n : Int) = c) :
    Calls Tryz.prog 116 #[.pointer (some ⟨b, 0, none⟩), .int .u8 c] w fun e w' => e = .returned (.bool false) ∧ Below w.heap.size w w' := by
  have HC := Lib.hid h
  have h5 := h.small
  have h4 := h.le
  by_cases hn : n < s.size
  · have hl : 0 < (fromB s n).size := by rw [fromB_size]; omega
    have hx : (((fromB s n)[0].toNat : Int) == c) = false := by rw [bt_at, fromB_bt s n 0 (by omega)]; simpa using hc hn
    have hx2 : (((fromB s n)[0].toNat : Int) != c) = true := by rw [bne, hx]; rfl
    have he : (fromB s n).toList.isEmpty = false := by rw [emp_iff, decide_eq_false_iff_not]; omega
    clear h hc hn
    go_enter Tryz.func116, Tryz.ntmps116
    go_wp2_with fail
    refine (cur_left _ _ _ _ HC.out).mono ?_
    rintro e w1 ⟨rfl, hb1⟩
    go_wp2_with fail
    go_ret
    exact ⟨rfl, hb1⟩
  · have he : (fromB s n).toList = [] := by rw [ByteArray.toList_eq, ← List.length_eq_zero_iff, ← ba_size, fromB_size]; omega
    clear h hc hn
    go_enter Tryz.func116, Tryz.ntmps116
    go_wp2_with fail
    refine (cur_left _ _ _ _ HC.out).mono ?_
    rintro e w1 ⟨rfl, hb1⟩
    go_wp2_with fail
    go_ret
    exact ⟨rfl, hb1⟩
theorem cur_byte_none (c : Int) (w : World) :
    Calls Tryz.prog 116 #[.pointer none, .int .u8 c] w fun e w' => e = .returned (.bool false) ∧ Below w.heap.size w w' := by
  go_enter Tryz.func116, Tryz.ntmps116
  go_wp2_with fail
  refine (cur_left_none _).mono ?_
  rintro e w1 ⟨rfl, hb1⟩
  go_wp2_with fail
  go_ret
  exact ⟨rfl, hb1⟩
end Go.Proofs.YtgamekfickheaaaGreat
namespace Go.Proofs.YtgamekfickheaaaGreat
open Go.RowKit
set_option linter.unusedVariables false
set_option linter.unusedSimpArgs false

set_option maxRecDepth 100000 in
set_option maxHeartbeats 800000 in
theorem cur_while (F : FuncId) (first : Array Value) (P : Nat → Bool) (hF : ∀ (c : Nat) (w : World), c < 256 → Calls Tryz.prog F (first.push (.int .u8 c)) w fun e w' => e = .returned (.bool (P c)) ∧ Below w.heap.size w w')
    (hG : ∀ (args : Array Value) (w : World), (callFunc F args).run Tryz.prog w = .ok (.enter F args) w) (b n : Nat) (s : ByteArray) (w : World) (h : CurAt b s n w) :
    Calls Tryz.prog 136 #[.pointer (some ⟨b, 0, none⟩), .func (.func F) first #[]] w fun e w' => e = .returned (.string (upB (fromB s n) (preN P (fromB s n)))) ∧ CurTo b s (n + preN P (fromB s n)) w w' := by
  have HC := Lib.hid h
  have HF := Lib.hid hF
  have h4 := h.le
  have h5 := h.small
  have hsz := fromB_size s n
  have HSZ := Lib.hid hsz
  clear h hF hsz
  go_enter Tryz.func136, Tryz.ntmps136
  go_wp2_with fail
  refine (cur_left _ _ _ _ HC.out).mono ?_
  rintro e w1 ⟨rfl, hb1⟩
  have HC1 := Lib.hid (HC.out.kept hb1)
  have hB1 := But.of (b := b) hb1
  clear hb1
  have hsm : (fromB s n).size ≤ 9223372036854775807 := by rw [fromB_size]; omega
  have hw1 := hB1.size
  generalize hx : fromB s n = x at *
  have HX := Lib.hid hx
  clear hx
  go_wp2_with fail
  go_loopw [6] (fun i wr => ∃ k : Nat, k ≤ x.size ∧ i = .int .i64 k ∧ (∀ j, j < k → P (bt x j) = true) ∧ Below w1.heap.size w1 wr) (fun i _ => x.size - (intOf i).toNat)
  case atStart => exact ⟨0, by omega, rfl, fun j h => by omega, Below.refl _ _⟩
  case round =>
    obtain ⟨k, hk, rfl, hp, hb⟩ := hrel
    have HP := Lib.hid hp
    have HBr := Lib.hid hb
    clear hp hb
    by_cases hlt : k < x.size
    · have hbt := bt_at x k hlt
      have HBT := Lib.hid hbt
      clear hbt
      go_wp2_with fail
      rw [HBT.out]
      refine (HF.out _ _ (bt_lt _ _)).mono ?_
      rintro e w2 ⟨rfl, hb2⟩
      have HB2 := Lib.hid ((HBr.out).trans (hb2.mono (HBr.out.size)))
      clear hb2
      cases ht : P (bt x k)
      · have HT := Lib.hid ht
        clear ht
        have hpre : preN P x = k := preN_of hk HP.out (.inr ⟨hlt, HT.out⟩)
        have HPR := Lib.hid hpre
        clear hpre
        have HC2 := Lib.hid (HC1.out.kept (HB2.out))
        have g1 := HC2.out.pos
        have g2 := HC2.out.free
        have hkn : k + n ≤ 9223372036854775807 := by have := HSZ.out; have := HX.out; subst this; omega
        have hns : n + k ≤ s.size := by have := HSZ.out; have := HX.out; subst this; omega
        by_cases hk0 : k = 0
        · subst hk0
          go_wp2_with fail
          go_ret
          refine ⟨by rw [HX.out, HPR.out, upB_zero]; rfl, ?_, ?_⟩
          · exact hB1.trans (But.of HB2.out)
          · rw [HX.out, HPR.out]; exact HC2.out
        · have hk1 : 0 < k := by omega
          go_wp2_with fail
          go_ret
          refine ⟨by rw [HX.out, HPR.out]; rfl, ?_, ?_⟩
          · exact (hB1.trans (But.of HB2.out)).setCell _ _
          · rw [HX.out, HPR.out]; exact HC2.out.set hns
      · have HT := Lib.hid ht
        clear ht
        go_wp2_with fail
        go_roundw
        case rel => exact ⟨k + 1, by omega, by go_num, fun j hj => by
          by_cases hjk : j < k
          · exact HP.out j hjk
          · obtain rfl : j = k := by omega
            exact HT.out, HB2.out⟩
        case measure => simp [intOf]; omega
    · have hke : k = x.size := by omega
      have hpre : preN P x = k := preN_of hk HP.out (.inl hke)
      have HPR := Lib.hid hpre
      clear hpre
      have HKE := Lib.hid hke
      clear hke
      have HC2 := Lib.hid (HC1.out.kept (HBr.out))
      have g1 := HC2.out.pos
      have g2 := HC2.out.free
      have hkn : k + n ≤ 9223372036854775807 := by have := HSZ.out; have := HX.out; subst this; omega
      have hns : n + k ≤ s.size := by have := HSZ.out; have := HX.out; subst this; omega
      by_cases hk0 : k = 0
      · subst hk0
        go_wp2_with fail
        go_ret
        refine ⟨by rw [HX.out, HPR.out, upB_zero]; rfl, ?_, ?_⟩
        · exact hB1.trans (But.of HBr.out)
        · rw [HX.out, HPR.out]; exact HC2.out
      · have hk1 : 0 < k := by omega
        go_wp2_with fail
        go_ret
        refine ⟨by rw [HX.out, HPR.out]; rfl, ?_, ?_⟩
        · exact (hB1.trans (But.of HBr.out)).setCell _ _
        · rw [HX.out, HPR.out]; exact HC2.out.set hns
end Go.Proofs.YtgamekfickheaaaGreat
namespace Go.Proofs.YtgamekfickheaaaGreat
open Go.RowKit
set_option linter.unusedVariables false
set_option linter.unusedSimpArgs false

theorem b_eq {a b : Bool} (h : a = true ↔ b = true) : a = b := by rwa [Bool.eq_iff_iff]
theorem pre_up (P : Nat → Bool) (x : ByteArray) : (upB x (preN P x)).size = preN P x := by rw [upB_size]; have := preN_le P x; omega

theorem callF_tchar (args : Array Value) (w : World) : (callFunc 137 args).run Tryz.prog w = .ok (.enter 137 args) w := by kernel_rfl
theorem cur_token (b n : Nat) (s : ByteArray) (w : World) (h : CurAt b s n w) :
    Calls Tryz.prog 115 #[.pointer (some ⟨b, 0, none⟩)] w fun e w' => e = .returned (.string (upB (fromB s n) (preN tcharB (fromB s n)))) ∧ CurTo b s (n + preN tcharB (fromB s n)) w w' := by
  have HC := Lib.hid h
  clear h
  go_enter Tryz.func115, Tryz.ntmps115
  go_wp2_with fail
  refine (cur_while 137 #[] tcharB (fun c w hc => (oct_tchar_any c w (by omega) (by omega)).mono fun e w' h => h) callF_tchar _ _ _ _ HC.out).mono ?_
  rintro e w1 ⟨rfl, ht⟩
  have HT := Lib.hid ht
  clear ht
  go_wp2_with fail
  go_ret
  exact ⟨rfl, HT.out⟩
def notB (c : Int) (n : Nat) : Bool := (n : Int) != c
set_option maxHeartbeats 800000 in
theorem cur_while_none (F : FuncId) (first : Array Value) (w : World) :
    Calls Tryz.prog 136 #[.pointer none, .func (.func F) first #[]] w fun e w' => e = .returned (.string ⟨#[]⟩) ∧ Below w.heap.size w w' := by
  go_enter Tryz.func136, Tryz.ntmps136
  go_wp2_with fail
  refine (cur_left_none _).mono ?_
  rintro e w1 ⟨rfl, hb1⟩
  have HB := Lib.hid hb1
  clear hb1
  go_wp2_with fail
  go_loop [6] (fun i => i = .int .i64 0) (fun i => 0)
  case atStart => rfl
  case round =>
    obtain rfl := hrel
    go_wp2_with fail
    go_ret
    exact ⟨rfl, HB.out⟩
theorem cur_token_none (w : World) :
    Calls Tryz.prog 115 #[.pointer none] w fun e w' => e = .returned (.string ⟨#[]⟩) ∧ Below w.heap.size w w' := by
  go_enter Tryz.func115, Tryz.ntmps115
  go_wp2_with fail
  refine (cur_while_none _ _ _).mono ?_
  rintro e w1 ⟨rfl, hb⟩
  go_wp2_with fail
  go_ret
  exact ⟨rfl, hb⟩
/-! ### The document's -/
set_option maxRecDepth 100000 in
set_option maxHeartbeats 800000 in
theorem ref_token4_any (x : ByteArray) (w : World) (hs : x.size ≤ maxLen) :
    Calls Tryz.prog 140 #[.string x] w fun e w' => e = .returned (.int .i64 (preN tcharB x)) ∧ w = w' := by
  unfold maxLen at hs
  go_enter Tryz.func140, Tryz.ntmps140
  go_wp2_with fail
  go_loop [3] (fun i => ∃ k : Nat, k ≤ x.size ∧ i = .int .i64 k ∧ ∀ j, j < k → tcharB (bt x j) = true) (fun i => x.size - (intOf i).toNat)
  case atStart => exact ⟨0, by omega, rfl, fun j h => by omega⟩
  case round =>
    obtain ⟨k, hk, rfl, hp⟩ := hrel
    have HP := Lib.hid hp
    clear hp
    by_cases hlt : k < x.size
    · have HBT := Lib.hid (bt_at x k hlt)
      have h256 := bt_lt x k
      go_wp2_with fail
      rw [HBT.out]
      refine (ref_tchar_any _ _ (by omega) (by omega)).mono ?_
      rintro e w' ⟨rfl, rfl⟩
      rw [Int.toNat_natCast]
      cases ht : tcharB (bt x k)
      · have HT := Lib.hid ht
        clear ht
        go_wp2_with fail
        go_ret
        exact ⟨ret_int (by rw [preN_of hk HP.out (.inr ⟨hlt, HT.out⟩)]), rfl⟩
      · have HT := Lib.hid ht
        clear ht
        go_wp2_with fail
        go_round
        case rel => exact ⟨k + 1, by omega, by go_num, fun j hj => by
          by_cases hjk : j < k
          · exact HP.out j hjk
          · obtain rfl : j = k := by omega
            exact HT.out⟩
        case measure => simp [intOf]; omega
    · have HK := Lib.hid (show k = x.size by omega)
      go_wp2_with fail
      go_ret
      exact ⟨ret_int (by rw [preN_of hk HP.out (.inl HK.out)]), rfl⟩

end Go.Proofs.YtgamekfickheaaaGreat
namespace Go.Proofs.YtgamekfickheaaaGreat
open Go.RowKit
set_option linter.unusedVariables false
set_option linter.unusedSimpArgs false

theorem qread_q {c : UInt8} {r acc : List UInt8} {n : Nat} (h : c.toNat = 34) : qread (c :: r) acc n = some (acc, n + 1) := by
  cases r <;> unfold qread <;> rw [if_pos h]
theorem qread_esc {c d : UInt8} {r acc : List UInt8} {n : Nat} (h : c.toNat = 92) (hd : valueB d.toNat = true) : qread (c :: d :: r) acc n = qread r (acc ++ [d]) (n + 2) := by
  rw [qread, if_neg (by omega), if_pos h, if_pos hd]
theorem qread_esc_no {c d : UInt8} {r acc : List UInt8} {n : Nat} (h : c.toNat = 92) (hd : valueB d.toNat = false) : qread (c :: d :: r) acc n = none := by
  rw [qread, if_neg (by omega), if_pos h, if_neg (by rw [hd]; decide)]
theorem qread_esc_end {c : UInt8} {acc : List UInt8} {n : Nat} (h : c.toNat = 92) : qread [c] acc n = none := by
  rw [qread, if_neg (by omega)]
theorem qread_plain {c : UInt8} {r acc : List UInt8} {n : Nat} (h1 : c.toNat ≠ 34) (h2 : c.toNat ≠ 92) (hd : valueB c.toNat = true) : qread (c :: r) acc n = qread r (acc ++ [c]) (n + 1) := by
  cases r with
  | nil => show (if c.toNat = 34 then _ else none) = _; rw [if_neg h1]; rfl
  | cons d r => rw [qread, if_neg h1, if_neg h2, if_pos hd]
theorem qread_plain_no {c : UInt8} {r acc : List UInt8} {n : Nat} (h1 : c.toNat ≠ 34) (h2 : c.toNat ≠ 92) (hd : valueB c.toNat = false) : qread (c :: r) acc n = none := by
  cases r with
  | nil => rw [qread, if_neg h1]
  | cons d r => rw [qread, if_neg h1, if_neg h2, if_neg (by rw [hd]; decide)]
theorem drop_at (x : ByteArray) (k : Nat) (h : k < x.size) : x.data.toList.drop k = x[k] :: x.data.toList.drop (k + 1) := by
  rw [List.drop_eq_getElem_cons (by rw [← ba_size]; exact h)]; rfl
theorem quoted_some {x : ByteArray} {l : List UInt8} {m : Nat} (h : quotedL x.data.toList = some (l, m)) : quotedS x = ⟨l.toArray⟩ ∧ quotedN x = m := by
  unfold quotedS quotedN; rw [h]; exact ⟨rfl, rfl⟩
theorem quoted_none {x : ByteArray} (h : quotedL x.data.toList = none) : quotedS x = ⟨#[]⟩ ∧ quotedN x = 0 := by
  unfold quotedS quotedN; rw [h]; exact ⟨rfl, rfl⟩
theorem quotedL_emp {x : ByteArray} (h : x.size = 0) : quotedL x.data.toList = none := by
  have : x.data.toList = [] := by rw [← List.length_eq_zero_iff, ← ba_size]; exact h
  rw [this]; rfl
theorem quotedL_no {x : ByteArray} (h : 0 < x.size) (hc : bt x 0 ≠ 34) : quotedL x.data.toList = none := by
  have e := drop_at x 0 h
  rw [List.drop_zero] at e
  rw [e, quotedL, if_neg (by rw [bt_at]; exact hc)]
theorem quotedL_yes {x : ByteArray} (h : 0 < x.size) (hc : bt x 0 = 34) : quotedL x.data.toList = qread (x.data.toList.drop 1) [] 1 := by
  have e := drop_at x 0 h
  rw [List.drop_zero] at e
  rw [e, quotedL, if_pos (by rw [bt_at]; exact hc)]
  simp
theorem one_size (x : ByteArray) (k : Nat) (h : k < x.size) : (x.extract k (k + 1)).data.toList = [x[k]] := by
  rw [Lib.extract_data, drop_at x k h]; simp
theorem allB_one (x : ByteArray) (k : Nat) (h : k < x.size) : allB valueB (x.extract k (k + 1)) = valueB (bt x k) := by
  unfold allB; rw [one_size x k h]; simp [bt_at]

theorem own_below {w w' : World} {base : Nat} {e : TypeId} {size : Nat} {v : Value} {n : Nat} {xs : List Value} (h : w.ownsRow base e size v n xs) (hb : Below w.heap.size w w') : w'.ownsRow base e size v n xs :=
  h.kept (row := none) ⟨hb.os, hb.tape, hb.output, hb.size, fun k hk _ => hb.block k hk⟩ (by cases v.ownBlock <;> simp)

set_option maxRecDepth 100000 in
set_option maxHeartbeats 4000000 in
theorem cur_quoted (b n : Nat) (s : ByteArray) (w : World) (h : CurAt b s n w) (hs : s.size ≤ 140737488351232) :
    Calls Tryz.prog 117 #[.pointer (some ⟨b, 0, none⟩)] w fun e w' => e = .returned (.tuple #[.string (quotedS (fromB s n)), .bool (decide (0 < quotedN (fromB s n)))]) ∧ CurTo b s (n + quotedN (fromB s n)) w w' := by
  have HC := Lib.hid h
  have hsz := fromB_size s n
  have h4 := h.le
  clear h
  have hx140 : (fromB s n).size ≤ 140737488351232 := by omega
  have hns : n + (fromB s n).size = s.size := by omega
  have HNS := Lib.hid hns
  clear hsz hns
  obtain ⟨x, hx⟩ : ∃ x, x = fromB s n := ⟨_, rfl⟩
  have HX := Lib.hid hx
  rw [← hx] at hx140 HNS
  clear hx
  by_cases h0 : x.size = 0
  · have hq := quoted_none (quotedL_emp h0)
    have HQ := Lib.hid hq
    have he : x.toList = [] := by rw [ByteArray.toList_eq, ← List.length_eq_zero_iff, ← ba_size]; exact h0
    clear hq h0
    go_enter Tryz.func117, Tryz.ntmps117
    go_wp2_with fail
    refine (cur_left _ _ _ _ HC.out).mono ?_
    rintro e w1 ⟨rfl, hb1⟩
    rw [← HX.out]
    go_wp2_with fail
    go_ret2
    refine ⟨by rw [← HX.out, HQ.out.1, HQ.out.2]; rfl, But.of hb1, ?_⟩
    rw [← HX.out, HQ.out.2]
    exact HC.out.kept hb1
  · have hp : 0 < x.size := by omega
    have he : x.toList.isEmpty = false := by rw [emp_iff, decide_eq_false_iff_not]; omega
    clear h0
    by_cases h34 : bt x 0 = 34
    · have hq := quotedL_yes hp h34
      have HQ := Lib.hid hq
      have hx2 : ((x[0].toNat : Int) != 34) = false := by rw [bt_at, h34]; rfl
      clear hq h34
      go_enter Tryz.func117, Tryz.ntmps117
      go_wp2_with fail
      refine (cur_left _ _ _ _ HC.out).mono ?_
      rintro e w1 ⟨rfl, hb1⟩
      rw [← HX.out]
      have HC1 := Lib.hid (HC.out.kept hb1)
      have HB1 := Lib.hid hb1
      clear hb1
      go_wp2_with fail
      clear hx2
      go_loopw [5, 6] (fun v i wr => ∃ (k : Nat) (acc : List UInt8), 1 ≤ k ∧ k ≤ x.size ∧ i = .int .i64 k ∧ acc.length ≤ k ∧ wr.ownsRow w1.heap.size 5 1 v acc.length (bv acc) ∧ Below w1.heap.size w1 wr ∧ quotedL x.data.toList = qread (x.data.toList.drop k) acc k) (fun _ i _ => x.size - (intOf i).toNat)
      case atStart => exact ⟨1, [], by omega, by omega, rfl, by simp, ⟨by simp [bv], .inl ⟨rfl, rfl⟩⟩, Below.refl _ _, HQ.out⟩
      case round =>
        obtain ⟨k, acc, hk1, hk, rfl, hal, hown, hbel, hqr⟩ := hrel
        have HQR := Lib.hid hqr
        have HBr := Lib.hid hbel
        have hw1 := hbel.size
        clear hqr hbel
        have HC2 := Lib.hid (HC1.out.kept HBr.out)
        have noneEnd : quotedL x.data.toList = none → Ending.returned (.tuple #[.string ⟨#[]⟩, .bool false]) = .returned (.tuple #[.string (quotedS (fromB s n)), .bool (decide (0 < quotedN (fromB s n)))]) ∧ ∀ w', Below wr.heap.size wr w' → CurTo b s (n + quotedN (fromB s n)) w w' := by
          intro hno
          have hq := quoted_none hno
          rw [← HX.out, hq.1, hq.2]
          refine ⟨rfl, fun w' hb => ⟨(But.of HB1.out).trans ((But.of HBr.out).trans (But.of hb)), HC2.out.kept hb⟩⟩
        have HNE := Lib.hid noneEnd
        clear noneEnd
        by_cases hlt : k < x.size
        · have hbt := bt_at x k hlt
          have hdr := drop_at x k hlt
          have HDR := Lib.hid hdr
          clear hdr
          by_cases c34 : bt x k = 34
          · have e1 : ((x[k].toNat : Int) == 34) = true := by rw [hbt, c34]; rfl
            have hres := quoted_some (x := x) (l := acc) (m := k + 1) (by rw [HQR.out, HDR.out]; exact qread_q (by rw [hbt]; exact c34))
            have HR := Lib.hid hres
            have hcv := own_string (src := 70) (dst := 9) Tryz.underlying70 Tryz.underlying5 Tryz.underlying9 hown
            have hbb : ∀ v, (wr.setCell ⟨b, 1, none⟩ v).ownsRow w1.heap.size 5 1 u5 acc.length (bv acc) := fun v => ownsRow_setCell_below hown (by have := HC1.out.lt; exact this) v
            have hcv2 := fun v => own_string (src := 70) (dst := 9) Tryz.underlying70 Tryz.underlying5 Tryz.underlying9 (hbb v)
            have g1 := HC2.out.pos
            have g2 := HC2.out.free
            have g3 : (n : Int) + (k + 1) ≤ 140737488351232 := by have := HNS.out; omega
            have g4 : n + (k + 1) ≤ s.size := by have := HNS.out; omega
            clear hbt c34 hres hbb
            go_wp2_with fail
            go_ret2
            refine ⟨by rw [← HX.out, HR.out.1, HR.out.2]; simp, ?_, ?_⟩
            · exact ((But.of HB1.out).trans (But.of HBr.out)).setCell _ _
            · rw [← HX.out, HR.out.2]; exact HC2.out.set g4
          · by_cases c92 : bt x k = 92
            · have e1 : ((x[k].toNat : Int) == 34) = false := by rw [hbt, beq_eq_false_iff_ne]; omega
              have e2 : ((x[k].toNat : Int) == 92) = true := by rw [hbt, c92]; rfl
              have HC92 := Lib.hid (show (x[k]).toNat = 92 by rw [hbt]; exact c92)
              clear hbt c34 c92
              by_cases hlt2 : k + 1 < x.size
              · have hdr2 := drop_at x (k + 1) hlt2
                have HDR2 := Lib.hid hdr2
                have HBT2 := Lib.hid (bt_at x (k + 1) hlt2)
                have hne : ((k : Int) + 1 == (x.size : Int)) = false := by rw [beq_eq_false_iff_ne]; omega
                have HV := Lib.hid (allB_one x (k + 1) hlt2)
                clear hdr2
                go_wp2_with fail
                refine (oct_value_any _ _ (by have := one_size x (k + 1) hlt2; unfold maxLen; rw [ba_len this]; simp)).mono ?_
                rintro e w2 ⟨rfl, hb2⟩
                rw [HV.out]
                have hown2 : w2.ownsRow w1.heap.size 5 1 u5 acc.length (bv acc) := by
                  exact own_below hown hb2
                have HB2 := Lib.hid hb2
                have hw2 : w1.heap.size ≤ w2.heap.size := Nat.le_trans hw1 hb2.size
                clear hb2 hown
                cases hv : valueB (bt x (k + 1))
                · have hno := HNE.out (by rw [HQR.out, HDR.out, HDR2.out]; exact qread_esc_no HC92.out (by rw [HBT2.out]; exact hv))
                  have HNO := Lib.hid hno
                  clear hno hv
                  go_wp2_with fail
                  go_ret2
                  exact ⟨HNO.out.1, HNO.out.2 _ HB2.out⟩
                · have hst : quotedL x.data.toList = qread (x.data.toList.drop (k + 2)) (acc ++ [x[k + 1]]) (k + 2) := by rw [HQR.out, HDR.out, HDR2.out]; exact qread_esc HC92.out (by rw [HBT2.out]; exact hv)
                  have HST := Lib.hid hst
                  clear hst hv
                  go_wp2_with (at_builtin; refine app_byte rfl _ _ _ _ rfl Tryz.underlying70 Tryz.infoB w1.heap.size _ _ rfl hown2 (x[k + 1]) _ rfl rfl (by omega) hw2 ?_; intro v' w' hown' hb' _)
                  go_roundw
                  case rel => exact ⟨k + 2, _, by omega, by omega, by go_num, by simp; omega, hown', (HBr.out.trans (HB2.out.mono (by omega))).trans hb', HST.out⟩
                  case measure => simp [intOf]; omega
              · have hke : k + 1 = x.size := by omega
                have hne : ((k : Int) + 1 == (x.size : Int)) = true := by rw [beq_iff_eq]; omega
                have hno := HNE.out (by rw [HQR.out, HDR.out, List.drop_of_length_le (by rw [← ba_size]; omega)]; exact qread_esc_end HC92.out)
                have HNO := Lib.hid hno
                clear hno
                go_wp2_with fail
                go_ret2
                exact ⟨HNO.out.1, HNO.out.2 _ (Below.refl _ _)⟩
            · have e1 : ((x[k].toNat : Int) == 34) = false := by rw [hbt, beq_eq_false_iff_ne]; omega
              have e2 : ((x[k].toNat : Int) == 92) = false := by rw [hbt, beq_eq_false_iff_ne]; omega
              have HCA := Lib.hid (show (x[k]).toNat ≠ 34 by rw [hbt]; exact c34)
              have HCB := Lib.hid (show (x[k]).toNat ≠ 92 by rw [hbt]; exact c92)
              have HBT2 := Lib.hid hbt
              have hne : ((k : Int) == (x.size : Int)) = false := by rw [beq_eq_false_iff_ne]; omega
              have HV := Lib.hid (allB_one x k hlt)
              clear hbt c34 c92
              go_wp2_with fail
              refine (oct_value_any _ _ (by have := one_size x k hlt; unfold maxLen; rw [ba_len this]; simp)).mono ?_
              rintro e w2 ⟨rfl, hb2⟩
              rw [HV.out]
              have hown2 : w2.ownsRow w1.heap.size 5 1 u5 acc.length (bv acc) := by
                exact own_below hown hb2
              have HB2 := Lib.hid hb2
              have hw2 : w1.heap.size ≤ w2.heap.size := Nat.le_trans hw1 hb2.size
              clear hb2 hown
              cases hv : valueB (bt x k)
              · have hno := HNE.out (by rw [HQR.out, HDR.out]; exact qread_plain_no HCA.out HCB.out (by rw [HBT2.out]; exact hv))
                have HNO := Lib.hid hno
                clear hno hv
                go_wp2_with fail
                go_ret2
                exact ⟨HNO.out.1, HNO.out.2 _ HB2.out⟩
              · have hst : quotedL x.data.toList = qread (x.data.toList.drop (k + 1)) (acc ++ [x[k]]) (k + 1) := by rw [HQR.out, HDR.out]; exact qread_plain HCA.out HCB.out (by rw [HBT2.out]; exact hv)
                have HST := Lib.hid hst
                clear hst hv
                go_wp2_with (at_builtin; refine app_byte rfl _ _ _ _ rfl Tryz.underlying70 Tryz.infoB w1.heap.size _ _ rfl hown2 (x[k]) _ rfl rfl (by omega) hw2 ?_; intro v' w' hown' hb' _)
                go_roundw
                case rel => exact ⟨k + 1, _, by omega, by omega, by go_num, by simp; omega, hown', (HBr.out.trans (HB2.out.mono (by omega))).trans hb', HST.out⟩
                case measure => simp [intOf]; omega
        · have hno := HNE.out (by rw [HQR.out, List.drop_of_length_le (by rw [← ba_size]; omega)]; rfl)
          have HNO := Lib.hid hno
          clear hno
          go_wp2_with fail
          go_ret2
          exact ⟨HNO.out.1, HNO.out.2 _ (Below.refl _ _)⟩
    · have hq := quoted_none (quotedL_no hp h34)
      have HQ := Lib.hid hq
      have hx2 : ((x[0].toNat : Int) != 34) = true := by rw [bt_at, bne_iff_ne]; omega
      clear hq h34
      go_enter Tryz.func117, Tryz.ntmps117
      go_wp2_with fail
      refine (cur_left _ _ _ _ HC.out).mono ?_
      rintro e w1 ⟨rfl, hb1⟩
      rw [← HX.out]
      go_wp2_with fail
      go_ret2
      refine ⟨by rw [← HX.out, HQ.out.1, HQ.out.2]; rfl, But.of hb1, ?_⟩
      rw [← HX.out, HQ.out.2]
      exact HC.out.kept hb1
theorem cur_quoted_none (w : World) :
    Calls Tryz.prog 117 #[.pointer none] w fun e w' => e = .returned (.tuple #[.string ⟨#[]⟩, .bool false]) ∧ Below w.heap.size w w' := by
  go_enter Tryz.func117, Tryz.ntmps117
  go_wp2_with fail
  refine (cur_left_none _).mono ?_
  rintro e w1 ⟨rfl, hb1⟩
  go_wp2_with fail
  go_ret2
  exact ⟨rfl, hb1⟩
end Go.Proofs.YtgamekfickheaaaGreat
namespace Go.Proofs.YtgamekfickheaaaGreat
open Go.RowKit
set_option linter.unusedVariables false
set_option linter.unusedSimpArgs false

theorem app_list (a b : ByteArray) : (a ++ b).data.toList = a.data.toList ++ b.data.toList := by simp
theorem app_one (o x : ByteArray) (k : Nat) (h : k < x.size) : (o ++ x.extract k (k + 1)).data.toList = o.data.toList ++ [x[k]] := by rw [app_list, one_size x k h]

set_option maxRecDepth 100000 in
set_option maxHeartbeats 4000000 in
theorem ref_quoted_any (x : ByteArray) (w : World) (hx140 : x.size ≤ 140737488351232) :
    Calls Tryz.prog 141 #[.string x] w fun e w' => e = .returned (.tuple #[.string (quotedS x), .int .i64 (quotedN x)]) ∧ w = w' := by
  have hnone : quotedL x.data.toList = none → Ending.returned (.tuple #[.string ⟨#[]⟩, .int .i64 0]) = .returned (.tuple #[.string (quotedS x), .int .i64 (quotedN x)]) := by
    intro h
    have hq := quoted_none h
    rw [hq.1, hq.2]; rfl
  have HNE := Lib.hid hnone
  clear hnone
  by_cases h0 : x.size = 0
  · have HNO := Lib.hid (HNE.out (quotedL_emp h0))
    have e0 : ((x.size : Int) == 0) = true := by rw [beq_iff_eq]; omega
    clear h0
    go_enter Tryz.func141, Tryz.ntmps141
    go_wp2_with fail
    go_ret2
    exact ⟨HNO.out, rfl⟩
  · have hp : 0 < x.size := by omega
    have e0 : ((x.size : Int) == 0) = false := by rw [beq_eq_false_iff_ne]; omega
    clear h0
    by_cases h34 : bt x 0 = 34
    · have HQ := Lib.hid (quotedL_yes hp h34)
      have hx2 : ((x[0].toNat : Int) != 34) = false := by rw [bt_at, h34]; rfl
      clear h34
      go_enter Tryz.func141, Tryz.ntmps141
      go_wp2_with fail
      clear hx2
      go_loop [4, 5] (fun v i => ∃ (k : Nat) (o : ByteArray), 1 ≤ k ∧ k ≤ x.size ∧ i = .int .i64 k ∧ v = .string o ∧ o.size ≤ k ∧ quotedL x.data.toList = qread (x.data.toList.drop k) o.data.toList k) (fun _ i => x.size - (intOf i).toNat)
      case atStart => exact ⟨1, ⟨#[]⟩, by omega, by omega, rfl, rfl, by decide, HQ.out⟩
      case round =>
        obtain ⟨k, o, hk1, hk, rfl, rfl, hos, hqr⟩ := hrel
        have HQR := Lib.hid hqr
        clear hqr
        by_cases hlt : k < x.size
        · have hbt := bt_at x k hlt
          have HDR := Lib.hid (drop_at x k hlt)
          by_cases c34 : bt x k = 34
          · have e1 : ((x[k].toNat : Int) == 34) = true := by rw [hbt, c34]; rfl
            have HR := Lib.hid (quoted_some (x := x) (l := o.data.toList) (m := k + 1) (by rw [HQR.out, HDR.out]; exact qread_q (by rw [hbt]; exact c34)))
            clear hbt c34
            go_wp2_with fail
            go_ret2
            refine ⟨?_, rfl⟩
            rw [HR.out.1, HR.out.2, ← ba_eq o _ rfl]
            simp
          · by_cases c92 : bt x k = 92
            · have e1 : ((x[k].toNat : Int) == 34) = false := by rw [hbt, beq_eq_false_iff_ne]; omega
              have e2 : ((x[k].toNat : Int) == 92) = true := by rw [hbt, c92]; rfl
              have HC92 := Lib.hid (show (x[k]).toNat = 92 by rw [hbt]; exact c92)
              clear hbt c34 c92
              by_cases hlt2 : k + 1 < x.size
              · have HDR2 := Lib.hid (drop_at x (k + 1) hlt2)
                have HBT2 := Lib.hid (bt_at x (k + 1) hlt2)
                have HV := Lib.hid (allB_one x (k + 1) hlt2)
                have HAP := Lib.hid (app_one o x (k + 1) hlt2)
                go_wp2_with fail
                refine (ref_value_any _ _ (by have := one_size x (k + 1) hlt2; unfold maxLen; rw [ba_len this]; simp)).mono ?_
                rintro e w2 ⟨rfl, rfl⟩
                rw [HV.out]
                cases hv : valueB (bt x (k + 1))
                · have HNO := Lib.hid (HNE.out (by rw [HQR.out, HDR.out, HDR2.out]; exact qread_esc_no HC92.out (by rw [HBT2.out]; exact hv)))
                  clear hv
                  go_wp2_with fail
                  go_ret2
                  exact ⟨HNO.out, rfl⟩
                · have HST := Lib.hid (show quotedL x.data.toList = qread (x.data.toList.drop (k + 2)) (o.data.toList ++ [x[k + 1]]) (k + 2) by rw [HQR.out, HDR.out, HDR2.out]; exact qread_esc HC92.out (by rw [HBT2.out]; exact hv))
                  clear hv
                  go_wp2_with fail
                  go_round
                  case rel => exact ⟨k + 2, _, by omega, by omega, by go_num, rfl, by rw [ba_len HAP.out]; simp; omega, by rw [HAP.out]; exact HST.out⟩
                  case measure => simp [intOf]; omega
              · have HNO := Lib.hid (HNE.out (by rw [HQR.out, HDR.out, List.drop_of_length_le (by rw [← ba_size]; omega)]; exact qread_esc_end HC92.out))
                go_wp2_with fail
                go_ret2
                exact ⟨HNO.out, rfl⟩
            · have e1 : ((x[k].toNat : Int) == 34) = false := by rw [hbt, beq_eq_false_iff_ne]; omega
              have e2 : ((x[k].toNat : Int) == 92) = false := by rw [hbt, beq_eq_false_iff_ne]; omega
              have HCA := Lib.hid (show (x[k]).toNat ≠ 34 by rw [hbt]; exact c34)
              have HCB := Lib.hid (show (x[k]).toNat ≠ 92 by rw [hbt]; exact c92)
              have HBT2 := Lib.hid hbt
              have HV := Lib.hid (allB_one x k hlt)
              have HAP := Lib.hid (app_one o x k hlt)
              clear hbt c34 c92
              go_wp2_with fail
              refine (ref_value_any _ _ (by have := one_size x k hlt; unfold maxLen; rw [ba_len this]; simp)).mono ?_
              rintro e w2 ⟨rfl, rfl⟩
              rw [HV.out]
              cases hv : valueB (bt x k)
              · have HNO := Lib.hid (HNE.out (by rw [HQR.out, HDR.out]; exact qread_plain_no HCA.out HCB.out (by rw [HBT2.out]; exact hv)))
                clear hv
                go_wp2_with fail
                go_ret2
                exact ⟨HNO.out, rfl⟩
              · have HST := Lib.hid (show quotedL x.data.toList = qread (x.data.toList.drop (k + 1)) (o.data.toList ++ [x[k]]) (k + 1) by rw [HQR.out, HDR.out]; exact qread_plain HCA.out HCB.out (by rw [HBT2.out]; exact hv))
                clear hv
                go_wp2_with fail
                go_round
                case rel => exact ⟨k + 1, _, by omega, by omega, by go_num, rfl, by rw [ba_len HAP.out]; simp; omega, by rw [HAP.out]; exact HST.out⟩
                case measure => simp [intOf]; omega
        · have HNO := Lib.hid (HNE.out (by rw [HQR.out, List.drop_of_length_le (by rw [← ba_size]; omega)]; rfl))
          go_wp2_with fail
          go_ret2
          exact ⟨HNO.out, rfl⟩
    · have HNO := Lib.hid (HNE.out (quotedL_no hp h34))
      have hx2 : ((x[0].toNat : Int) != 34) = true := by rw [bt_at, bne_iff_ne]; omega
      clear h34
      go_enter Tryz.func141, Tryz.ntmps141
      go_wp2_with fail
      go_ret2
      exact ⟨HNO.out, rfl⟩

theorem escC_two {c : UInt8} (h : c.toNat = 34 ∨ c.toNat = 92) : escC c = [92, c] := by unfold escC; rw [if_pos h]
theorem escC_one {c : UInt8} (h : ¬ (c.toNat = 34 ∨ c.toNat = 92)) : escC c = [c] := by unfold escC; rw [if_neg h]
theorem quoteS_tok {s : ByteArray} (h : tokenB s = true) : quoteS s = s ∧ quoteOk s = true := by unfold quoteS quoteOk; rw [h]; simp
theorem quoteS_no {s : ByteArray} (h : tokenB s = false) (hv : allB valueB s = false) : quoteS s = ⟨#[]⟩ ∧ quoteOk s = false := by unfold quoteS quoteOk; rw [h, hv]; simp
theorem quoteS_yes {s : ByteArray} (h : tokenB s = false) (hv : allB valueB s = true) : quoteS s = ⟨(34 :: escL s.data.toList ++ [34]).toArray⟩ ∧ quoteOk s = true := by unfold quoteS quoteOk; rw [h, hv]; simp

end Go.Proofs.YtgamekfickheaaaGreat
namespace Go.Proofs.YtgamekfickheaaaGreat
open Go.RowKit
set_option linter.unusedVariables false
set_option linter.unusedSimpArgs false

theorem own_block {w w' : World} {base : Nat} {e : TypeId} {size : Nat} {v : Value} {n : Nat} {xs : List Value} (h : w.ownsRow base e size v n xs) (hb : ∀ g, v.ownBlock = some g → w'.heap[g]? = w.heap[g]?) : w'.ownsRow base e size v n xs := by
  obtain ⟨h1, h2⟩ := h
  refine ⟨h1, ?_⟩
  rcases h2 with h2 | ⟨g, cap, cur, rfl, hg, hh, r⟩
  · exact .inl h2
  · exact .inr ⟨g, cap, cur, rfl, hg, by rw [hb g rfl]; exact hh, r⟩
theorem own_iter {w : World} {base : Nat} {e : TypeId} {size : Nat} {v : Value} {n k pos : Nat} {s : ByteArray} {xs : List Value} (h : w.ownsRow base e size v n xs) (hk : w.heap[k]? = some (.stringIter s pos)) : v.ownBlock ≠ some k := by
  rcases h.2 with ⟨rfl, _⟩ | ⟨g, cap, cur, rfl, hg, hh, r⟩
  · simp [Value.ownBlock]
  · intro he
    have : g = k := by simpa [Value.ownBlock] using he
    subst this
    rw [hh] at hk; cases hk

/-- A text's octets more behind a row of the call's own. -/
theorem app_str {P : Program} {wr : World} {ops : Array Oper} {rest : List Oper} {o : Oper} {a : Act} {Q : Exit → Act → World → Prop} (hgd : o.guard = none) (s x : Operand) (t u e : TypeId)
    (ho : o.op = .call { callee := .builtin .append, args := #[s, x], argTypes := #[t, u] }) (ht : P.underlying t = some (.slice e)) (hu : P.underlying u = some .string)
    (hi : (P.info? e).map (fun i => (i.zero, i.size, i.bytes)) = some (some (.int .u8 0), 1, 1)) (B : Nat) (v : Value) (l : List UInt8) (hs : a.eval s = v) (hown : wr.ownsRow B e 1 v l.length (bv l))
    (y : ByteArray) (hx : a.eval x = .string y) (hlen : l.length + y.size ≤ 140737488355328) (hB : B ≤ wr.heap.size)
    (h : ∀ v' w', w'.ownsRow B e 1 v' (l ++ y.data.toList).length (bv (l ++ y.data.toList)) → Below B wr w' → wr.grownBy w' v.ownBlock → wpList P ops Q rest (a.put o.dst v') w') :
    wpList P ops Q (o :: rest) a wr := by
  obtain ⟨i0, hi, hz0, hz1, hz2⟩ := info_parts hi
  refine Lib.wpList_append_own_string _ hgd s x t u ho B e i0 ht hu hi hz0 hz1 hz2 v l.length (bv l) hs hown y hx (by unfold maxLen; omega) hlen hB ?_
  intro v' w' h1 h2 _
  refine h v' w' ?_ ((Below.refl B wr).grown h2 hB fun k hk => (hown.lt k hk).1) h2
  rw [List.length_append, ← ba_size, bv_append]
  exact h1

theorem escL_append (l m : List UInt8) : escL (l ++ m) = escL l ++ escL m := by simp [escL]
theorem escL_plain : ∀ m : List UInt8, (∀ c ∈ m, ¬ (c.toNat = 34 ∨ c.toNat = 92)) → escL m = m
  | [], _ => rfl
  | c :: m, h => by
    have h1 : escL (c :: m) = escC c ++ escL m := by simp [escL]
    rw [h1, escC_one (h c (by simp)), escL_plain m (fun d hd => h d (by simp [hd]))]
    rfl

/-- What Quote has written when it stands at pos, the last sign before which it wrote one standing at fr. -/
def QuoAt (s : ByteArray) (l : List UInt8) (fr pos : Nat) : Prop := fr ≤ pos ∧ pos ≤ s.size ∧ l.length ≤ 2 * fr + 2 ∧ l ++ (s.data.toList.take pos).drop fr = 34 :: escL (s.data.toList.take pos)
theorem quoAt_start (s : ByteArray) : QuoAt s [34] 0 0 := ⟨by omega, by omega, by simp, by simp [escL]⟩
theorem take_more (s : ByteArray) (pos wd : Nat) : s.data.toList.take (pos + wd) = s.data.toList.take pos ++ (s.data.toList.drop pos).take wd := by rw [List.take_add]
theorem quoAt_plain {s : ByteArray} {l : List UInt8} {fr pos wd : Nat} (h : QuoAt s l fr pos) (hw : pos + wd ≤ s.size) (hp : ∀ j, pos ≤ j → j < pos + wd → ¬ (bt s j = 34 ∨ bt s j = 92)) : QuoAt s l fr (pos + wd) := by
  obtain ⟨h1, h2, h3, h4⟩ := h
  refine ⟨by omega, hw, h3, ?_⟩
  have hseg : ∀ c ∈ (s.data.toList.drop pos).take wd, ¬ (c.toNat = 34 ∨ c.toNat = 92) := by
    intro c hc
    obtain ⟨j, hj, rfl⟩ := List.getElem_of_mem hc
    have hj2 : j < wd := by simp at hj; omega
    have hj3 : pos + j < s.size := by simp at hj; omega
    have := hp (pos + j) (by omega) (by omega)
    rw [← bt_list s (pos + j) hj3] at this
    simpa using this
  rw [take_more, escL_append, escL_plain _ hseg, List.drop_append_of_le_length (by rw [List.length_take, ← ba_size]; omega), ← List.append_assoc, h4]
  simp
theorem quoAt_sign {s : ByteArray} {l : List UInt8} {fr pos : Nat} (h : QuoAt s l fr pos) (hw : pos < s.size) (hp : bt s pos = 34 ∨ bt s pos = 92) : QuoAt s (l ++ (s.extract fr pos).data.toList ++ [92]) pos (pos + 1) := by
  obtain ⟨h1, h2, h3, h4⟩ := h
  have he : (s.extract fr pos).data.toList = (s.data.toList.take pos).drop fr := by rw [Lib.extract_data, List.drop_take]
  refine ⟨by omega, by omega, ?_, ?_⟩
  · have e1 : ((s.data.toList.take pos).drop fr).length = pos - fr := by rw [List.length_drop, List.length_take, ← ba_size, Nat.min_eq_left h2]
    have e2 := congrArg List.length h4
    rw [List.length_append, e1, List.length_cons] at e2
    have e3 := escL_len (s.data.toList.take pos)
    rw [List.length_take, ← ba_size, Nat.min_eq_left h2] at e3
    simp only [List.length_append, he, e1, List.length_singleton]
    omega
  · have hts := take_snoc s pos hw
    rw [he, h4, hts, escL_snoc, escC_two (by rw [bt_at]; exact hp), List.drop_append_of_le_length (by rw [List.length_take, ← ba_size]; omega), List.drop_of_length_le (by rw [List.length_take, ← ba_size]; omega)]
    simp
theorem quoAt_end {s : ByteArray} {l : List UInt8} {fr : Nat} (h : QuoAt s l fr s.size) : l ++ (s.extract fr s.size).data.toList ++ [34] = 34 :: escL s.data.toList ++ [34] := by
  obtain ⟨h1, h2, h3, h4⟩ := h
  have ht : s.data.toList.take s.size = s.data.toList := List.take_of_length_le (by rw [← ba_size]; omega)
  rw [ht] at h4
  rw [Lib.extract_to_end, h4]

end Go.Proofs.YtgamekfickheaaaGreat
namespace Go.Proofs.YtgamekfickheaaaGreat
open Go.RowKit
set_option linter.unusedVariables false
set_option linter.unusedSimpArgs false

set_option maxHeartbeats 800000 in
theorem cur_new (s : ByteArray) (w : World) (hs : s.size ≤ 9223372036854775807) :
    Calls Tryz.prog 114 #[.string s] w fun e w' => e = .returned (.pointer (some ⟨w.heap.size, 0, none⟩)) ∧ Below w.heap.size w w' ∧ CurAt w.heap.size s 0 w' := by
  go_enter Tryz.func114, Tryz.ntmps114
  go_wp2_with fail
  go_ret
  refine ⟨rfl, (Below.refl _ _).alloc (Nat.le_refl _) _, ⟨?_, ?_, ?_, ?_, by omega, hs, heap_alloc_new _ _⟩⟩
  · go_simp
  · go_simp
  · go_simp
  · simp

theorem ex4a : quoteS ⟨#[97, 32, 98]⟩ = ⟨#[34, 97, 32, 98, 34]⟩ ∧ quoteOk ⟨#[97, 32, 98]⟩ = true := by decide +kernel
theorem ex4b : quotedS (fromB ⟨#[34, 97, 92, 34, 98, 34, 120]⟩ 0) = ⟨#[97, 34, 98]⟩ ∧ quotedN (fromB ⟨#[34, 97, 92, 34, 98, 34, 120]⟩ 0) = 6 ∧ fromB ⟨#[34, 97, 92, 34, 98, 34, 120]⟩ (0 + 6) = ⟨#[120]⟩ := by decide +kernel

/-- x is s, or its first n octets. -/
def Cut (n : Nat) (s x : ByteArray) : Prop := (s.size ≤ n ∧ x = s) ∨ (¬ s.size ≤ n ∧ x = s.extract 0 n)
theorem cut_any (n : Nat) (s : ByteArray) : ∃ x, Cut n s x := by
  by_cases h : s.size ≤ n
  · exact ⟨s, .inl ⟨h, rfl⟩⟩
  · exact ⟨_, .inr ⟨h, rfl⟩⟩
theorem Cut.le {n : Nat} {s x : ByteArray} (h : Cut n s x) : x.size ≤ n := by
  rcases h with ⟨h, rfl⟩ | ⟨_, rfl⟩
  · exact h
  · rw [ba_size, Lib.extract_data]; simp; omega

/-! ### A text comes back from its quoted one -/
theorem qread_back : ∀ (l acc r : List UInt8) (n : Nat), (∀ c ∈ l, valueB c.toNat = true) → qread (escL l ++ 34 :: r) acc n = some (acc ++ l, n + (escL l).length + 1)
  | [], acc, r, n, _ => by
    have : escL [] = [] := rfl
    rw [this, List.nil_append, qread_q (by decide)]; simp
  | c :: l, acc, r, n, h => by
    have h1 : escL (c :: l) = escC c ++ escL l := by simp [escL]
    have hv := h c (by simp)
    have ih := fun a m => qread_back l a r m (fun d hd => h d (by simp [hd]))
    by_cases hs : c.toNat = 34 ∨ c.toNat = 92
    · rw [h1, escC_two hs]
      show qread (92 :: c :: (escL l ++ 34 :: r)) acc n = _
      rw [qread_esc (by decide) hv, ih]
      simp; omega
    · rw [h1, escC_one hs]
      show qread (c :: (escL l ++ 34 :: r)) acc n = _
      rw [qread_plain (by omega) (by omega) hv, ih]
      simp; omega
theorem quoted_back (s b : ByteArray) (ht : tokenB s = false) (hv : allB valueB s = true) :
    quotedS (quoteS s ++ ⟨#[44]⟩ ++ b) = s ∧ quotedN (quoteS s ++ ⟨#[44]⟩ ++ b) = (quoteS s).size ∧ 0 < (quoteS s).size := by
  have hq := (quoteS_yes ht hv).1
  have hl : (quoteS s).data.toList = 34 :: escL s.data.toList ++ [34] := by rw [hq]
  have hall : ∀ c ∈ s.data.toList, valueB c.toNat = true := by unfold allB at hv; rw [List.all_eq_true] at hv; exact hv
  have key : quotedL (quoteS s ++ ⟨#[44]⟩ ++ b).data.toList = some (s.data.toList, (quoteS s).size) := by
    rw [app_list, app_list, hl]
    show quotedL (34 :: (escL s.data.toList ++ [34] ++ [44] ++ b.data.toList)) = _
    rw [quotedL, if_pos (by decide)]
    have e : escL s.data.toList ++ [34] ++ [44] ++ b.data.toList = escL s.data.toList ++ 34 :: ([44] ++ b.data.toList) := by simp
    rw [e, qread_back _ _ _ _ hall, ba_len hl]
    try (simp; done)
    try (simp; omega)
  have h2 := quoted_some key
  refine ⟨by rw [h2.1], h2.2, by rw [ba_len hl]; simp⟩
theorem token_back (s b : ByteArray) (ht : tokenB s = true) : preN tcharB (s ++ ⟨#[44]⟩ ++ b) = s.size := by
  have hl : (s ++ ⟨#[44]⟩ ++ b).data.toList = s.data.toList ++ 44 :: b.data.toList := by rw [app_list, app_list]; simp
  have hsz : (s ++ ⟨#[44]⟩ ++ b).size = s.size + 1 + b.size := by rw [ba_len hl, List.length_append, List.length_cons, ← ba_size, ← ba_size]; omega
  unfold tokenB at ht
  simp only [Bool.and_eq_true] at ht
  have hall := ht.2
  unfold allB at hall
  rw [List.all_eq_true] at hall
  refine preN_of (by omega) (fun j hj => ?_) (.inr ⟨by omega, ?_⟩)
  · have hj2 : j < (s ++ ⟨#[44]⟩ ++ b).size := by omega
    rw [← bt_list _ j hj2]
    have : (s ++ ⟨#[44]⟩ ++ b).data.toList[j]'(by rw [← ba_size]; exact hj2) = s.data.toList[j]'(by rw [← ba_size]; exact hj) := by
      simp only [hl]; exact List.getElem_append_left _
    rw [this]
    exact hall _ (List.getElem_mem _)
  · have hj2 : s.size < (s ++ ⟨#[44]⟩ ++ b).size := by omega
    rw [← bt_list _ _ hj2]
    have : (s ++ ⟨#[44]⟩ ++ b).data.toList[s.size]'(by rw [← ba_size]; exact hj2) = 44 := by
      simp only [hl]; rw [List.getElem_append_right (by rw [← ba_size]; omega)]; simp only [← ba_size, Nat.sub_self]; rfl
    rw [this]; decide +kernel
theorem up_front (s b : ByteArray) : upB (s ++ ⟨#[44]⟩ ++ b) s.size = s := ba_ext (by rw [upB_list, app_list, app_list, ba_size]; simp)
theorem from_front (s b : ByteArray) : fromB (s ++ ⟨#[44]⟩ ++ b) s.size = ⟨#[44]⟩ ++ b := ba_ext (by rw [fromB_list, app_list, app_list, app_list, ba_size]; simp)
theorem quoteS_ne (s : ByteArray) (ht : tokenB s = false) (hv : allB valueB s = true) : s.size < (quoteS s).size := by
  have hl : (quoteS s).data.toList = 34 :: escL s.data.toList ++ [34] := by rw [(quoteS_yes ht hv).1]
  have : ∀ l : List UInt8, l.length ≤ (escL l).length := by
    intro l
    induction l with
    | nil => simp
    | cons c l ih =>
      have h1 : escL (c :: l) = escC c ++ escL l := by simp [escL]
      have h2 : 1 ≤ (escC c).length := by unfold escC; split <;> simp
      rw [h1, List.length_append, List.length_cons]; omega
  have := this s.data.toList
  rw [← ba_size] at this
  rw [ba_len hl]
  simp; omega
theorem quoteS_len (s : ByteArray) : (quoteS s).size ≤ 2 * s.size + 2 := by
  have h := escL_len s.data.toList
  unfold quoteS
  split
  · omega
  · split
    · rw [← ba_size] at h
      have hl : (⟨(34 :: escL s.data.toList ++ [34]).toArray⟩ : ByteArray).size = (escL s.data.toList).length + 2 := by rw [ba_size]; simp
      rw [hl]; omega
    · have : (⟨#[]⟩ : ByteArray).size = 0 := rfl
      omega

theorem cback_tok (x y : ByteArray) (ht : tokenB x = true) : upB (fromB (x ++ ⟨#[44]⟩ ++ y) 0) (preN tcharB (fromB (x ++ ⟨#[44]⟩ ++ y) 0)) = x ∧ 0 + preN tcharB (fromB (x ++ ⟨#[44]⟩ ++ y) 0) = x.size ∧ fromB (x ++ ⟨#[44]⟩ ++ y) x.size = ⟨#[44]⟩ ++ y := by
  rw [fromB_zero, token_back x y ht]
  exact ⟨up_front x y, by omega, from_front x y⟩
theorem cback_quo (x y : ByteArray) (ht : tokenB x = false) (hv : allB valueB x = true) : quotedS (fromB (quoteS x ++ ⟨#[44]⟩ ++ y) 0) = x ∧ quotedN (fromB (quoteS x ++ ⟨#[44]⟩ ++ y) 0) = (quoteS x).size ∧ fromB (quoteS x ++ ⟨#[44]⟩ ++ y) (0 + (quoteS x).size) = ⟨#[44]⟩ ++ y ∧ 0 < (quoteS x).size := by
  rw [fromB_zero]
  obtain ⟨h1, h2, h3⟩ := quoted_back x y ht hv
  exact ⟨h1, h2, by rw [Nat.zero_add]; exact from_front _ y, h3⟩
theorem join_size (q y : ByteArray) : (q ++ ⟨#[44]⟩ ++ y).size = q.size + 1 + y.size := by
  have h92 : (⟨#[44]⟩ : ByteArray).size = 1 := rfl
  rw [ByteArray.size_append, ByteArray.size_append, h92]

end Go.Proofs.YtgamekfickheaaaGreat
