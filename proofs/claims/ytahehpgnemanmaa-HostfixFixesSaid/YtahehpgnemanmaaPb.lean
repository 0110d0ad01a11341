/- Texts without the blanks at their ends, as plain functions on lists of octets. -/
import Derived.Test.YtahehpgnemanmaaPa
import Derived.Lib.Strings
import Derived.Lib.IndexBytes
namespace Go.Proofs.Ytahehpgnemanmaa
open Go.RowKit
set_option linter.unusedVariables false
set_option linter.unusedSimpArgs false

def blankN (n : Nat) : Bool := n == 32 || n == 9
def blankC (c : UInt8) : Bool := blankN c.toNat
def trimL (l : List UInt8) : List UInt8 := ((l.dropWhile blankC).reverse.dropWhile blankC).reverse
def trimB (s : ByteArray) : ByteArray := ⟨(trimL s.data.toList).toArray⟩

theorem dropWhile_skip {f : UInt8 → Bool} : ∀ {p m : List UInt8}, (∀ c ∈ p, f c = true) → (p ++ m).dropWhile f = m.dropWhile f
  | [], _, _ => rfl
  | c :: p, m, h => by
    rw [List.cons_append, List.dropWhile_cons, if_pos (h c (by simp))]
    exact dropWhile_skip fun d hd => h d (by simp [hd])
theorem dropWhile_stop {f : UInt8 → Bool} {c : UInt8} {m : List UInt8} (h : f c = false) : (c :: m).dropWhile f = c :: m := by
  rw [List.dropWhile_cons, h]; simp
theorem dropWhile_part (f : UInt8 → Bool) : ∀ l : List UInt8, ∃ p, l = p ++ l.dropWhile f ∧ (∀ c ∈ p, f c = true) ∧ (l.dropWhile f = [] ∨ ∃ c r, l.dropWhile f = c :: r ∧ f c = false)
  | [] => ⟨[], by simp, by simp, .inl rfl⟩
  | c :: l => by
    cases h : f c
    · exact ⟨[], by rw [dropWhile_stop h]; simp, by simp, .inr ⟨c, l, dropWhile_stop h, h⟩⟩
    · obtain ⟨p, h1, h2, h3⟩ := dropWhile_part f l
      rw [List.dropWhile_cons, if_pos h]
      exact ⟨c :: p, by rw [List.cons_append, ← h1], fun d hd => (List.mem_cons.1 hd).elim (fun e => e ▸ h) (h2 d), h3⟩

/-- What neither begins nor ends with a blank. -/
def Tidy (m : List UInt8) : Prop := m = [] ∨ (∃ c r, m = c :: r ∧ blankC c = false) ∧ ∃ r c, m = r ++ [c] ∧ blankC c = false

theorem trimL_of {p m q : List UInt8} (hp : ∀ c ∈ p, blankC c = true) (hq : ∀ c ∈ q, blankC c = true) (hm : Tidy m) : trimL (p ++ m ++ q) = m := by
  unfold trimL
  rw [List.append_assoc, dropWhile_skip hp]
  rcases hm with rfl | ⟨⟨c, r, rfl, hc⟩, r', c', he, hc'⟩
  · have : q.dropWhile blankC = [] := by
      have := dropWhile_skip (m := []) hq
      simpa using this
    simp [this]
  · rw [List.cons_append, dropWhile_stop hc, ← List.cons_append, he, List.reverse_append]
    rw [dropWhile_skip (by intro d hd; exact hq d (List.mem_reverse.1 hd))]
    rw [List.reverse_append]
    simp only [List.reverse_cons, List.reverse_nil, List.nil_append, List.cons_append]
    rw [dropWhile_stop hc']
    simp

theorem trimL_part (l : List UInt8) : ∃ p q, l = p ++ trimL l ++ q ∧ (∀ c ∈ p, blankC c = true) ∧ (∀ c ∈ q, blankC c = true) ∧ Tidy (trimL l) := by
  obtain ⟨p, h1, h2, h3⟩ := dropWhile_part blankC l
  obtain ⟨q, g1, g2, g3⟩ := dropWhile_part blankC (l.dropWhile blankC).reverse
  have e : l.dropWhile blankC = trimL l ++ q.reverse := by
    have := congrArg List.reverse g1
    rw [List.reverse_reverse, List.reverse_append] at this
    exact this
  have hq : ∀ c ∈ q.reverse, blankC c = true := fun c hc => g2 c (List.mem_reverse.1 hc)
  refine ⟨p, q.reverse, by rw [List.append_assoc, ← e]; exact h1, h2, hq, ?_⟩
  rcases g3 with g3 | ⟨c, r, g3, g4⟩
  · left; unfold trimL; rw [g3]; rfl
  · right
    have ht : trimL l = r.reverse ++ [c] := by unfold trimL; rw [g3]; simp
    refine ⟨?_, r.reverse, c, ht, g4⟩
    rcases h3 with h3 | ⟨d, r', h3, h4⟩
    · rw [h3, ht] at e; simp at e
    · rw [h3] at e
      cases hT : trimL l with
      | nil => rw [hT] at ht; simp at ht
      | cons x y => rw [hT] at e; simp at e; obtain ⟨rfl, _⟩ := e; exact ⟨d, y, rfl, h4⟩

theorem trimL_tidy (m : List UInt8) (h : Tidy m) : trimL m = m := by
  have := trimL_of (p := []) (q := []) (m := m) (by simp) (by simp) h
  simpa using this
theorem trimL_trimL (l : List UInt8) : trimL (trimL l) = trimL l := trimL_tidy _ (trimL_part l).choose_spec.choose_spec.2.2.2
theorem trimL_around (l : List UInt8) (a b : List UInt8) (ha : ∀ c ∈ a, blankC c = true) (hb : ∀ c ∈ b, blankC c = true) : trimL (a ++ l ++ b) = trimL l := by
  obtain ⟨p, q, e, hp, hq, ht⟩ := trimL_part l
  have : a ++ l ++ b = (a ++ p) ++ trimL l ++ (q ++ b) := by
    conv => lhs; rw [e]
    simp [List.append_assoc]
  rw [this]
  exact trimL_of (fun c hc => (List.mem_append.1 hc).elim (ha c) (hp c)) (fun c hc => (List.mem_append.1 hc).elim (hq c) (hb c)) ht
theorem trimL_length (l : List UInt8) : (trimL l).length ≤ l.length := by
  obtain ⟨p, q, e, _⟩ := trimL_part l
  have := congrArg List.length e
  simp at this; omega

/-- The number of octets in a slot. -/
def szOf : Value → Nat | .string s => s.size | _ => 0

theorem ba_ext {a b : ByteArray} (h : a.data.toList = b.data.toList) : a = b := by
  cases a; cases b; simp at h; simp [h]
theorem ba_eq (s : ByteArray) (l : List UInt8) (h : s.data.toList = l) : s = ⟨l.toArray⟩ := ba_ext (by simp [h])
theorem ba_size (s : ByteArray) : s.size = s.data.toList.length := by simp
theorem ba_len {s : ByteArray} {l : List UInt8} (h : s.data.toList = l) : s.size = l.length := by rw [ba_size, h]
theorem bt_cons {s : ByteArray} {c : UInt8} {r : List UInt8} (h : s.data.toList = c :: r) : bt s 0 = c.toNat := by
  have hs : 0 < s.size := by rw [ba_len h]; simp
  rw [← bt_list s 0 hs]; simp [h]
theorem bt_snoc {s : ByteArray} {c : UInt8} {r : List UInt8} (h : s.data.toList = r ++ [c]) : bt s (s.size - 1) = c.toNat := by
  have h1 := ba_len h
  have hs : s.size - 1 < s.size := by rw [h1]; simp
  rw [← bt_list s _ hs]; simp [h, h1]

theorem mem_take_bt {s : ByteArray} {a : Nat} {c : UInt8} (h : c ∈ s.data.toList.take a) : ∃ j, j < a ∧ j < s.size ∧ c.toNat = bt s j := by
  obtain ⟨j, hj, rfl⟩ := List.getElem_of_mem h
  have hj2 : j < s.size := by rw [List.length_take, ← ba_size] at hj; omega
  refine ⟨j, by rw [List.length_take] at hj; omega, hj2, ?_⟩
  rw [← bt_list s j hj2, List.getElem_take]
theorem mem_drop_bt {s : ByteArray} {a : Nat} {c : UInt8} (h : c ∈ s.data.toList.drop a) : ∃ j, a ≤ j ∧ j < s.size ∧ c.toNat = bt s j := by
  obtain ⟨j, hj, rfl⟩ := List.getElem_of_mem h
  have hj2 : a + j < s.size := by rw [List.length_drop, ← ba_size] at hj; omega
  refine ⟨a + j, by omega, hj2, ?_⟩
  rw [← bt_list s (a + j) hj2, List.getElem_drop]

theorem trimB_extract (s : ByteArray) (a q : Nat) (haq : a < q) (hq : q ≤ s.size) (h1 : ∀ j, j < a → blankN (bt s j) = true) (h2 : ∀ j, q ≤ j → j < s.size → blankN (bt s j) = true)
    (h3 : blankN (bt s a) = false) (h4 : blankN (bt s (q - 1)) = false) : s.extract a q = trimB s := by
  refine ba_eq _ _ ?_
  rw [Lib.extract_data]
  have hsz := ba_size s
  have e : s.data.toList = s.data.toList.take a ++ (s.data.toList.drop a).take (q - a) ++ s.data.toList.drop q := by
    conv => lhs; rw [← List.take_append_drop a s.data.toList, ← List.take_append_drop (q - a) (s.data.toList.drop a)]
    rw [List.drop_drop, List.append_assoc, show a + (q - a) = q from by omega]
  conv => rhs; rw [e]
  refine (trimL_of ?_ ?_ ?_).symm
  · intro c hc
    obtain ⟨j, hj, _, hb⟩ := mem_take_bt hc
    rw [blankC, hb]; exact h1 j hj
  · intro c hc
    obtain ⟨j, hj, hj2, hb⟩ := mem_drop_bt hc
    rw [blankC, hb]; exact h2 j hj hj2
  · right
    have hla : a < s.data.toList.length := by omega
    refine ⟨?_, ?_⟩
    · refine ⟨s.data.toList[a], (s.data.toList.drop (a + 1)).take (q - a - 1), ?_, ?_⟩
      · rw [List.drop_eq_getElem_cons hla, show q - a = (q - a - 1) + 1 from by omega, List.take_succ_cons]
        simp
      · rw [blankC, bt_list s a (by omega)]; exact h3
    · have hlq : q - 1 < s.data.toList.length := by omega
      refine ⟨(s.data.toList.drop a).take (q - a - 1), s.data.toList[q - 1], ?_, ?_⟩
      · conv => lhs; rw [show q - a = (q - a - 1) + 1 from by omega]
        rw [List.take_succ_eq_append_getElem (by simp; omega)]
        congr 2
        simp
        congr 1
        omega
      · rw [blankC, bt_list s (q - 1) (by omega)]; exact h4

theorem trimB_blank (s : ByteArray) (h : ∀ j, j < s.size → blankN (bt s j) = true) : (⟨#[]⟩ : ByteArray) = trimB s := by
  have := trimL_of (p := s.data.toList) (m := []) (q := []) (fun c hc => by
    obtain ⟨j, hj, rfl⟩ := List.getElem_of_mem hc
    have hj' : j < s.size := by simpa using hj
    rw [blankC, bt_list s j hj']; exact h j hj') (by simp) (.inl rfl)
  simp at this
  rw [trimB, this]
end Go.Proofs.Ytahehpgnemanmaa
