/- Octets of a text, runes of a text, and what the classes of octets (layer 1) are, as plain functions. · Texts without the blanks at their ends, as plain functions on lists of octets. -/
import Derived.WalkKit
import Derived.Lib.Hide
import Derived.WalkSpells
import Derived.Lib.OthersKept
import Derived.Laws.BytesArg
import Derived.Laws.IdiomStrings
import Derived.Lib.Strings
import Derived.Lib.IndexBytes
namespace Go.Proofs.YtcbfhlnnfnpkdaaGreatDoor
open Go.RowKit

theorem ret_bool {a b : Bool} (h : a = b) : Ending.returned (.bool a) = .returned (.bool b) := by rw [h]
theorem ret_str {a b : ByteArray} (h : a = b) : Ending.returned (.string a) = .returned (.string b) := by rw [h]

/-- One call behind another. -/
theorem below_thn {w w1 w2 : World} (h : Below w.heap.size w w1) (h2 : Below w1.heap.size w1 w2) : Below w.heap.size w w2 := h.trans (h2.mono h.size)

/-- Octet j of s. -/
def bt (s : ByteArray) (j : Nat) : Nat := (s.get! j).toNat
theorem bt_at (s : ByteArray) (j : Nat) (h : j < s.size) : (s[j]'h).toNat = bt s j := by
  have := get_at s j h
  simp only [Nat.add_zero] at this
  rw [bt, this]
theorem bt_lt (s : ByteArray) (j : Nat) : bt s j < 256 := UInt8.toNat_lt _
theorem bt_list (s : ByteArray) (j : Nat) (h : j < s.size) : (s.data.toList[j]'(by simpa using h)).toNat = bt s j := by
  rw [← bt_at s j h]; rfl

theorem dec_low (s : ByteArray) (pos : Nat) (h : pos < s.size) (ha : bt s pos < 128) : Utf8.decode s pos = (bt s pos, 1) := by
  rw [← bt_at s pos h] at ha ⊢
  exact decode_ascii s pos h ha

theorem dec_high (s : ByteArray) (pos : Nat) (h : pos < s.size) (ha : 128 ≤ bt s pos) :
    128 ≤ (Utf8.decode s pos).1 ∧ 1 ≤ (Utf8.decode s pos).2 ∧ ∀ j, pos ≤ j → j < pos + (Utf8.decode s pos).2 → j < s.size ∧ 128 ≤ bt s j := by
  obtain ⟨h1, h2⟩ := decode_high s pos h (by rw [bt_at s pos h]; exact ha)
  refine ⟨h1, h2, ?_⟩
  have one : ∀ k, k < 1 → pos + k < s.size ∧ 128 ≤ bt s (pos + k) := fun k hk => by
    obtain rfl : k = 0 := by omega
    exact ⟨h, ha⟩
  have hn : ¬ (s.get! (pos + 0)).toNat < 128 := by
    have : bt s (pos + 0) = (s.get! (pos + 0)).toNat := rfl
    rw [← this]; simp only [Nat.add_zero]; omega
  suffices H : ∀ k, k < (Utf8.decode s pos).2 → pos + k < s.size ∧ 128 ≤ bt s (pos + k) by
    intro j hj hj2
    have := H (j - pos) (by omega)
    rwa [show pos + (j - pos) = j from by omega] at this
  intro k hk
  have cont : ∀ i, (decide (pos + i < s.size) && (s.get! (pos + i)).toNat / 64 == 2) = true → pos + i < s.size ∧ 128 ≤ bt s (pos + i) := by
    intro i hi
    simp only [Bool.and_eq_true, decide_eq_true_eq, beq_iff_eq] at hi
    refine ⟨hi.1, ?_⟩
    unfold bt; omega
  simp only [Utf8.decode, hn, if_false] at hk
  split at hk
  · rename_i hc
    simp only [Bool.and_eq_true] at hc
    have c1 := cont 1 (by simpa using hc.2)
    split at hk
    · rcases (show k = 0 ∨ k = 1 by simp at hk; omega) with rfl | rfl
      · exact one 0 (by omega)
      · exact c1
    · exact one k (by simpa using hk)
  · split at hk
    · rename_i hc
      simp only [Bool.and_eq_true] at hc
      have c1 := cont 1 (by simpa using hc.1.2)
      have c2 := cont 2 (by simpa using hc.2)
      split at hk
      · rcases (show k = 0 ∨ k = 1 ∨ k = 2 by simp at hk; omega) with rfl | rfl | rfl
        · exact one 0 (by omega)
        · exact c1
        · exact c2
      · exact one k (by simpa using hk)
    · split at hk
      · rename_i hc
        simp only [Bool.and_eq_true] at hc
        have c1 := cont 1 (by simpa using hc.1.1.2)
        have c2 := cont 2 (by simpa using hc.1.2)
        have c3 := cont 3 (by simpa using hc.2)
        split at hk
        · rcases (show k = 0 ∨ k = 1 ∨ k = 2 ∨ k = 3 by simp at hk; omega) with rfl | rfl | rfl | rfl
          · exact one 0 (by omega)
          · exact c1
          · exact c2
          · exact c3
        · exact one k (by simpa using hk)
      · exact one k (by simpa using hk)

/-- Do all octets of s fit? -/
def allB (P : Nat → Bool) (s : ByteArray) : Bool := s.data.toList.all fun c => P c.toNat
theorem allB_true {P : Nat → Bool} {s : ByteArray} (h : ∀ j, j < s.size → P (bt s j) = true) : allB P s = true := by
  unfold allB
  rw [List.all_eq_true]
  intro c hc
  obtain ⟨j, hj, rfl⟩ := List.getElem_of_mem hc
  have hj' : j < s.size := by simpa using hj
  rw [bt_list s j hj']
  exact h j hj'
theorem allB_false {P : Nat → Bool} {s : ByteArray} (j : Nat) (hj : j < s.size) (h : P (bt s j) = false) : allB P s = false := by
  unfold allB
  rw [List.all_eq_false]
  refine ⟨s.data.toList[j]'(by simpa using hj), List.getElem_mem _, ?_⟩
  rw [bt_list s j hj, h]; decide

def marks : List Nat := [33, 35, 36, 37, 38, 39, 42, 43, 45, 46, 94, 95, 96, 124, 126]
def marksB : ByteArray := ⟨#[33, 35, 36, 37, 38, 39, 42, 43, 45, 46, 94, 95, 96, 124, 126]⟩
theorem marksB_eq : (⟨#[33, 35, 36, 37, 38, 39, 42, 43, 45, 46, 94, 95, 96, 124, 126]⟩ : ByteArray) = marksB := rfl
theorem marksB_size : marksB.size = 15 := rfl
theorem marksB_low : ∀ k, k < 15 → bt marksB k < 128 := by decide +kernel

/-- P1.1: may this octet stand in a token? -/
def tcharB (n : Nat) : Bool := (decide (48 ≤ n) && decide (n ≤ 57)) || (decide (65 ≤ n) && decide (n ≤ 90)) || (decide (97 ≤ n) && decide (n ≤ 122)) || marks.any (fun m => m == n)
/-- None of letters and digits. -/
def otherB (n : Nat) : Bool := decide (n < 48) || (decide (58 ≤ n) && decide (n < 65)) || (decide (91 ≤ n) && decide (n < 97)) || decide (123 ≤ n)
theorem tchar_alnum : ∀ n, n < 256 → otherB n = false → tcharB n = true := by decide +kernel
theorem tchar_mark : ∀ k, k < 15 → tcharB (bt marksB k) = true := by decide +kernel
theorem tchar_none_aux : ∀ n, n < 256 → otherB n = true → (∀ k, k < 15 → (bt marksB k == n) = false) → tcharB n = false := by decide +kernel
theorem tchar_none (n : Nat) (h : n < 256) (ho : otherB n = true) (hk : ∀ k, k < 15 → bt marksB k ≠ n) : tcharB n = false :=
  tchar_none_aux n h ho fun k h => by simpa using hk k h
theorem tchar_high (n : Nat) (h : 128 ≤ n) : tcharB n = false := by
  have : marks.any (fun m => m == n) = false := by
    simp [marks]; omega
  simp only [tcharB, this]; simp; omega
theorem tchar_low : ∀ n, n < 256 → tcharB n = true → 33 ≤ n ∧ n ≤ 126 := by decide +kernel

def valueB (n : Nat) : Bool := n == 9 || (decide (32 ≤ n) && n != 127)
def visB (n : Nat) : Bool := decide (33 ≤ n) && decide (n ≤ 126)
def tokenB (s : ByteArray) : Bool := !s.data.toList.isEmpty && allB tcharB s
def visibleB (s : ByteArray) : Bool := !s.data.toList.isEmpty && allB visB s

/-! ### Rows of octets that a call made itself -/
def bv (l : List UInt8) : List Value := l.map fun c => Value.int .u8 (c.toNat : Int)
theorem bv_length (l : List UInt8) : (bv l).length = l.length := by simp [bv]
theorem bv_snoc (l : List UInt8) (c : UInt8) : bv (l ++ [c]) = bv l ++ [Value.int .u8 (c.toNat : Int)] := by simp [bv]
theorem bv_append (l m : List UInt8) : bv (l ++ m) = bv l ++ bv m := by simp [bv]

theorem own_string {P : Program} {w : World} {B : Nat} {e src dst : TypeId} {v : Value} {l : List UInt8} (hs : P.underlying src = some (.slice e)) (he : P.underlying e = some (.int .u8)) (hd : P.underlying dst = some .string)
    (h : w.ownsRow B e 1 v l.length (bv l)) : (convert src dst v).run P w = .ok (.string ⟨l.toArray⟩) w := by
  rcases h.2 with ⟨rfl, hn⟩ | ⟨g, cap, cur, rfl, hb, hg, r⟩
  · have hl : l = [] := List.length_eq_zero_iff.1 hn
    subst hl
    rw [run_convert_bytes_string w src dst e none 0 0 hs he hd]; rfl
  · exact run_convert_bytes_back w src dst e _ cap l hs he hd fun j hj => by
      have := h.cells (g := g) rfl j (Value.int .u8 (l[j].toNat : Int)) (by simp [bv, hj])
      exact this

/-- One octet more behind a row of the call's own. -/
theorem app_byte {P : Program} {wr : World} {ops : Array Oper} {rest : List Oper} {o : Oper} {a : Act} {Q : Exit → Act → World → Prop} (hgd : o.guard = none) (s x : Operand) (t e : TypeId)
    (ho : o.op = .call { callee := .builtin .append, args := #[s, x], argTypes := #[t, t] }) (ht : P.underlying t = some (.slice e))
    (hi : (P.info? e).map (fun i => (i.zero, i.size, i.bytes)) = some (some (.int .u8 0), 1, 1)) (B : Nat) (v : Value) (l : List UInt8) (hs : a.eval s = v) (hown : wr.ownsRow B e 1 v l.length (bv l))
    (c : UInt8) (n : Int) (hn : n = (c.toNat : Int)) (hx : a.eval x = .slice (some ⟨wr.heap.size, 0, none⟩) 1 1) (hlen : l.length < 140737488355328) (hB : B ≤ wr.heap.size)
    (h : ∀ v' w', w'.ownsRow B e 1 v' (l ++ [c]).length (bv (l ++ [c])) → Below B wr w' → (wr.alloc (.cells #[.int .u8 n] e)).grownBy w' v.ownBlock → wpList P ops Q rest (a.put o.dst v') w') :
    wpList P ops Q (o :: rest) a (wr.alloc (.cells #[.int .u8 n] e)) := by
  obtain ⟨i0, hi, hz0, hz1, hz2⟩ := info_parts hi
  refine wpList_append_own _ hgd s x t ho B e i0 (.int .u8 0) 1 1 ht hi hz0 hz1 hz2 rfl (by decide) v l.length (bv l) hs (hown.alloc _) ⟨wr.heap.size, 0, none⟩ 1 1 [.int .u8 n] hx rfl (cell_one_new _ _ _) (fun u hu => by simp at hu; subst hu; rfl) (by unfold maxLen; omega) (by omega) (by simp; omega) ?_
  intro v' w' h1 h2 _
  refine h v' w' ?_ (((Below.refl B wr).alloc hB _).grown h2 (by simp; omega) fun k hk => (hown.lt k hk).1) h2
  rw [bv_snoc, List.length_append, ← hn]
  exact h1

/-! ### Small letters -/
def lowN (n : Nat) : Nat := if 65 ≤ n ∧ n ≤ 90 then n + 32 else n
theorem lowN_lt (n : Nat) (h : n < 256) : lowN n < 256 := by unfold lowN; split <;> omega
def lowC (c : UInt8) : UInt8 := UInt8.ofNat (lowN c.toNat)
theorem lowC_toNat (c : UInt8) : (lowC c).toNat = lowN c.toNat := by
  have := lowN_lt c.toNat c.toNat_lt
  simp [lowC]; omega
def lowL (l : List UInt8) : List UInt8 := l.map lowC
def lowB (s : ByteArray) : ByteArray := ⟨(lowL s.data.toList).toArray⟩
theorem lowL_take (s : ByteArray) (k : Nat) (h : k < s.size) : lowL (s.data.toList.take (k + 1)) = lowL (s.data.toList.take k) ++ [lowC s[k]] := by
  rw [List.take_succ_eq_append_getElem (by simpa using h)]
  simp [lowL]; rfl
theorem lowL_length (l : List UInt8) : (lowL l).length = l.length := by simp [lowL]
theorem low_hit (c : UInt8) (h1 : 65 ≤ c.toNat) (h2 : c.toNat ≤ 90) : Value.int .u8 ((c.toNat : Int) + 32) = Value.int .u8 ((lowC c).toNat : Int) := by
  rw [lowC_toNat, lowN, if_pos ⟨h1, h2⟩]; simp
theorem low_miss (c : UInt8) (h : c.toNat < 65 ∨ 90 < c.toNat) : Value.int .u8 (c.toNat : Int) = Value.int .u8 ((lowC c).toNat : Int) := by
  rw [lowC_toNat, lowN, if_neg (by omega)]
end Go.Proofs.YtcbfhlnnfnpkdaaGreatDoor
namespace Go.Proofs.YtcbfhlnnfnpkdaaGreatDoor
open Go.RowKit
set_option linter.unusedVariables false
set_option linter.unusedSimpArgs false

def blankN (n : Nat) : Bool := n == 32 || n == 9
def blankC (c : UInt8) : Bool := blankN c.toNat
def trimL (l : List UInt8) : List UInt8 := ((l.dropWhile blankC).reverse.dropWhile blankC).reverse
def trimB (s : ByteArray) : ByteArray := ⟨(trimL s.data.toList).toArray⟩

theorem dropWhile_skip {f : UInt8 → Bool} : ∀ {p m : List UInt8}, (∀ c ∈ p, f c = true) → (p ++ m).dropWhile f = m.dropWhile f
  | [], _, _ => rfl
  | c :: p, m, h => by
    rw [List.cons_append, List.dropWhile_cons, if_pos (h c (by simp))]
    exact dropWhile_skip fun d hd => h d (by simp [hd])
theorem dropWhile_stop {f : UInt8 → Bool} {c : UInt8} {m : List UInt8} (h : f c = false) : (c :: m).dropWhile f = c :: m := by
  rw [List.dropWhile_cons, h]; simp
theorem dropWhile_part (f : UInt8 → Bool) : ∀ l : List UInt8, ∃ p, l = p ++ l.dropWhile f ∧ (∀ c ∈ p, f c = true) ∧ (l.dropWhile f = [] ∨ ∃ c r, l.dropWhile f = c :: r ∧ f c = false)
  | [] => ⟨[], by simp, by simp, .inl rfl⟩
  | c :: l => by
    cases h : f c
    · exact ⟨[], by rw [dropWhile_stop h]; simp, by simp, .inr ⟨c, l, dropWhile_stop h, h⟩⟩
    · obtain ⟨p, h1, h2, h3⟩ := dropWhile_part f l
      rw [List.dropWhile_cons, if_pos h]
      exact ⟨c :: p, by rw [List.cons_append, ← h1], fun d hd => (List.mem_cons.1 hd).elim (fun e => e ▸ h) (h2 d), h3⟩

/-- What neither begins nor ends with a blank. -/
def Tidy (m : List UInt8) : Prop := m = [] ∨ (∃ c r, m = c :: r ∧ blankC c = false) ∧ ∃ r c, m = r ++ [c] ∧ blankC c = false

theorem trimL_of {p m q : List UInt8} (hp : ∀ c ∈ p, blankC c = true) (hq : ∀ c ∈ q, blankC c = true) (hm : Tidy m) : trimL (p ++ m ++ q) = m := by
  unfold trimL
  rw [List.append_assoc, dropWhile_skip hp]
  rcases hm with rfl | ⟨⟨c, r, rfl, hc⟩, r', c', he, hc'⟩
  · have : q.dropWhile blankC = [] := by
      have := dropWhile_skip (m := []) hq
      simpa using this
    simp [this]
  · rw [List.cons_append, dropWhile_stop hc, ← List.cons_append, he, List.reverse_append]
    rw [dropWhile_skip (by intro d hd; exact hq d (List.mem_reverse.1 hd))]
    rw [List.reverse_append]
    simp only [List.reverse_cons, List.reverse_nil, List.nil_append, List.cons_append]
    rw [dropWhile_stop hc']
    simp

theorem trimL_part (l : List UInt8) : ∃ p q, l = p ++ trimL l ++ q ∧ (∀ c ∈ p, blankC c = true) ∧ (∀ c ∈ q, blankC c = true) ∧ Tidy (trimL l) := by
  obtain ⟨p, h1, h2, h3⟩ := dropWhile_part blankC l
  obtain ⟨q, g1, g2, g3⟩ := dropWhile_part blankC (l.dropWhile blankC).reverse
  have e : l.dropWhile blankC = trimL l ++ q.reverse := by
    have := congrArg List.reverse g1
    rw [List.reverse_reverse, List.reverse_append] at this
    exact this
  have hq : ∀ c ∈ q.reverse, blankC c = true := fun c hc => g2 c (List.mem_reverse.1 hc)
  refine ⟨p, q.reverse, by rw [List.append_assoc, ← e]; exact h1, h2, hq, ?_⟩
  rcases g3 with g3 | ⟨c, r, g3, g4⟩
  · left; unfold trimL; rw [g3]; rfl
  · right
    have ht : trimL l = r.reverse ++ [c] := by unfold trimL; rw [g3]; simp
    refine ⟨?_, r.reverse, c, ht, g4⟩
    rcases h3 with h3 | ⟨d, r', h3, h4⟩
    · rw [h3, ht] at e; simp at e
    · rw [h3] at e
      cases hT : trimL l with
      | nil => rw [hT] at ht; simp at ht
      | cons x y => rw [hT] at e; simp at e; obtain ⟨rfl, _⟩ := e; exact ⟨d, y, rfl, h4⟩

theorem trimL_tidy (m : List UInt8) (h : Tidy m) : trimL m = m := by
  have := trimL_of (p := []) (q := []) (m := m) (by simp) (by simp) h
  simpa using this
theorem trimL_trimL (l : List UInt8) : trimL (trimL l) = trimL l := trimL_tidy _ (trimL_part l).choose_spec.choose_spec.2.2.2
theorem trimL_around (l : List UInt8) (a b : List UInt8) (ha : ∀ c ∈ a, blankC c = true) (hb : ∀ c ∈ b, blankC c = true) : trimL (a ++ l ++ b) = trimL l := by
  obtain ⟨p, q, e, hp, hq, ht⟩ := trimL_part l
  have : a ++ l ++ b = (a ++ p) ++ trimL l ++ (q ++ b) := by
    conv => lhs; rw [e]
    simp [List.append_assoc]
  rw [this]
  exact trimL_of (fun c hc => (List.mem_append.1 hc).elim (ha c) (hp c)) (fun c hc => (List.mem_append.1 hc).elim (hq c) (hb c)) ht
theorem trimL_length (l : List UInt8) : (trimL l).length ≤ l.length := by
  obtain ⟨p, q, e, _⟩ := trimL_part l
  have := congrArg List.length e
  simp at this; omega

/-- The number of octets in a slot. -/
def szOf : Value → Nat | .string s => s.size | _ => 0

theorem ba_ext {a b : ByteArray} (h : a.data.toList = b.data.toList) : a = b := by
  cases a; cases b; simp at h; simp [h]
theorem ba_eq (s : ByteArray) (l : List UInt8) (h : s.data.toList = l) : s = ⟨l.toArray⟩ := ba_ext (by simp [h])
theorem ba_size (s : ByteArray) : s.size = s.data.toList.length := by simp
theorem ba_len {s : ByteArray} {l : List UInt8} (h : s.data.toList = l) : s.size = l.length := by rw [ba_size, h]
theorem bt_cons {s : ByteArray} {c : UInt8} {r : List UInt8} (h : s.data.toList = c :: r) : bt s 0 = c.toNat := by
  have hs : 0 < s.size := by rw [ba_len h]; simp
  rw [← bt_list s 0 hs]; simp [h]
theorem bt_snoc {s : ByteArray} {c : UInt8} {r : List UInt8} (h : s.data.toList = r ++ [c]) : bt s (s.size - 1) = c.toNat := by
  have h1 := ba_len h
  have hs : s.size - 1 < s.size := by rw [h1]; simp
  rw [← bt_list s _ hs]; simp [h, h1]

theorem mem_take_bt {s : ByteArray} {a : Nat} {c : UInt8} (h : c ∈ s.data.toList.take a) : ∃ j, j < a ∧ j < s.size ∧ c.toNat = bt s j := by
  obtain ⟨j, hj, rfl⟩ := List.getElem_of_mem h
  have hj2 : j < s.size := by rw [List.length_take, ← ba_size] at hj; omega
  refine ⟨j, by rw [List.length_take] at hj; omega, hj2, ?_⟩
  rw [← bt_list s j hj2, List.getElem_take]
theorem mem_drop_bt {s : ByteArray} {a : Nat} {c : UInt8} (h : c ∈ s.data.toList.drop a) : ∃ j, a ≤ j ∧ j < s.size ∧ c.toNat = bt s j := by
  obtain ⟨j, hj, rfl⟩ := List.getElem_of_mem h
  have hj2 : a + j < s.size := by rw [List.length_drop, ← ba_size] at hj; omega
  refine ⟨a + j, by omega, hj2, ?_⟩
  rw [← bt_list s (a + j) hj2, List.getElem_drop]

theorem trimB_extract (s : ByteArray) (a q : Nat) (haq : a < q) (hq : q ≤ s.size) (h1 : ∀ j, j < a → blankN (bt s j) = true) (h2 : ∀ j, q ≤ j → j < s.size → blankN (bt s j) = true)
    (h3 : blankN (bt s a) = false) (h4 : blankN (bt s (q - 1)) = false) : s.extract a q = trimB s := by
  refine ba_eq _ _ ?_
  rw [Lib.extract_data]
  have hsz := ba_size s
  have e : s.data.toList = s.data.toList.take a ++ (s.data.toList.drop a).take (q - a) ++ s.data.toList.drop q := by
    conv => lhs; rw [← List.take_append_drop a s.data.toList, ← List.take_append_drop (q - a) (s.data.toList.drop a)]
    rw [List.drop_drop, List.append_assoc, show a + (q - a) = q from by omega]
  conv => rhs; rw [e]
  refine (trimL_of ?_ ?_ ?_).symm
  · intro c hc
    obtain ⟨j, hj, _, hb⟩ := mem_take_bt hc
    rw [blankC, hb]; exact h1 j hj
  · intro c hc
    obtain ⟨j, hj, hj2, hb⟩ := mem_drop_bt hc
    rw [blankC, hb]; exact h2 j hj hj2
  · right
    have hla : a < s.data.toList.length := by omega
    refine ⟨?_, ?_⟩
    · refine ⟨s.data.toList[a], (s.data.toList.drop (a + 1)).take (q - a - 1), ?_, ?_⟩
      · rw [List.drop_eq_getElem_cons hla, show q - a = (q - a - 1) + 1 from by omega, List.take_succ_cons]
        simp
      · rw [blankC, bt_list s a (by omega)]; exact h3
    · have hlq : q - 1 < s.data.toList.length := by omega
      refine ⟨(s.data.toList.drop a).take (q - a - 1), s.data.toList[q - 1], ?_, ?_⟩
      · conv => lhs; rw [show q - a = (q - a - 1) + 1 from by omega]
        rw [List.take_succ_eq_append_getElem (by simp; omega)]
        congr 2
        simp
        congr 1
        omega
      · rw [blankC, bt_list s (q - 1) (by omega)]; exact h4

theorem trimB_blank (s : ByteArray) (h : ∀ j, j < s.size → blankN (bt s j) = true) : (⟨#[]⟩ : ByteArray) = trimB s := by
  have := trimL_of (p := s.data.toList) (m := []) (q := []) (fun c hc => by
    obtain ⟨j, hj, rfl⟩ := List.getElem_of_mem hc
    have hj' : j < s.size := by simpa using hj
    rw [blankC, bt_list s j hj']; exact h j hj') (by simp) (.inl rfl)
  simp at this
  rw [trimB, this]
end Go.Proofs.YtcbfhlnnfnpkdaaGreatDoor
