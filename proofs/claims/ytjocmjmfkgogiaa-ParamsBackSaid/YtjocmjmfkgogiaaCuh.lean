/- Texts read from their beginning: the document's examples; the laws CursorQuotes and CursorBack. -/
import Derived.Test.YtjocmjmfkgogiaaCug
namespace Go.Proofs.Ytjocmjmfkgogiaa
open Go.RowKit
set_option linter.unusedVariables false
set_option linter.unusedSimpArgs false

set_option maxHeartbeats 800000 in
theorem cur_new (s : ByteArray) (w : World) (hs : s.size ≤ 9223372036854775807) :
    Calls Try.prog 13 #[.string s] w fun e w' => e = .returned (.pointer (some ⟨w.heap.size, 0, none⟩)) ∧ Below w.heap.size w w' ∧ CurAt w.heap.size s 0 w' := by
  go_enter Try.func13, Try.ntmps13
  go_wp2_with fail
  go_ret
  refine ⟨rfl, (Below.refl _ _).alloc (Nat.le_refl _) _, ⟨?_, ?_, ?_, ?_, by omega, hs, heap_alloc_new _ _⟩⟩
  · go_simp
  · go_simp
  · go_simp
  · simp

theorem ex4a : quoteS ⟨#[97, 32, 98]⟩ = ⟨#[34, 97, 32, 98, 34]⟩ ∧ quoteOk ⟨#[97, 32, 98]⟩ = true := by decide +kernel
theorem ex4b : quotedS (fromB ⟨#[34, 97, 92, 34, 98, 34, 120]⟩ 0) = ⟨#[97, 34, 98]⟩ ∧ quotedN (fromB ⟨#[34, 97, 92, 34, 98, 34, 120]⟩ 0) = 6 ∧ fromB ⟨#[34, 97, 92, 34, 98, 34, 120]⟩ (0 + 6) = ⟨#[120]⟩ := by decide +kernel

set_option maxRecDepth 100000 in
set_option maxHeartbeats 800000 in
theorem lives4_any (w : World) :
    Calls Try.prog 25 #[] w fun e w' => e = .returned (.bool true) ∧ Below w.heap.size w w' := by
  have E1 := Lib.hid ex4a
  have E2 := Lib.hid ex4b
  go_enter Try.func25, Try.ntmps25
  go_wp2_with fail
  refine (cur_quote _ _ (by decide)).mono ?_
  rintro e w1 ⟨rfl, hb1⟩
  rw [E1.out.1, E1.out.2]
  go_wp2_with fail
  refine (cur_new _ _ (by decide)).mono ?_
  rintro e w2 ⟨rfl, hb2, hc2⟩
  have HC2 := Lib.hid hc2
  clear hc2
  go_wp2_with fail
  refine (cur_quoted _ _ _ _ HC2.out (by decide)).mono ?_
  rintro e w3 ⟨rfl, ht3⟩
  rw [E2.out.1, E2.out.2.1]
  rw [E2.out.2.1] at ht3
  have HT3 := Lib.hid ht3
  clear ht3
  go_wp2_with fail
  refine (cur_left _ _ _ _ HT3.out.2).mono ?_
  rintro e w4 ⟨rfl, hb4⟩
  rw [E2.out.2.2]
  go_wp2_with fail
  go_ret
  refine ⟨ret_bool (by decide +kernel), ?_⟩
  have h3 : Below w1.heap.size w2 w3 := HT3.out.1.below (Nat.le_refl _) hb2.size
  have h4 : Below w1.heap.size w1 w3 := hb2.trans h3
  exact below_thn (below_thn hb1 h4) hb4

/-- x is s, or its first n octets. -/
def Cut (n : Nat) (s x : ByteArray) : Prop := (s.size ≤ n ∧ x = s) ∨ (¬ s.size ≤ n ∧ x = s.extract 0 n)
theorem cut_any (n : Nat) (s : ByteArray) : ∃ x, Cut n s x := by
  by_cases h : s.size ≤ n
  · exact ⟨s, .inl ⟨h, rfl⟩⟩
  · exact ⟨_, .inr ⟨h, rfl⟩⟩
theorem Cut.le {n : Nat} {s x : ByteArray} (h : Cut n s x) : x.size ≤ n := by
  rcases h with ⟨h, rfl⟩ | ⟨_, rfl⟩
  · exact h
  · rw [ba_size, Lib.extract_data]; simp; omega

/-! ### A text comes back from its quoted one -/
theorem qread_back : ∀ (l acc r : List UInt8) (n : Nat), (∀ c ∈ l, valueB c.toNat = true) → qread (escL l ++ 34 :: r) acc n = some (acc ++ l, n + (escL l).length + 1)
  | [], acc, r, n, _ => by
    have : escL [] = [] := rfl
    rw [this, List.nil_append, qread_q (by decide)]; simp
  | c :: l, acc, r, n, h => by
    have h1 : escL (c :: l) = escC c ++ escL l := by simp [escL]
    have hv := h c (by simp)
    have ih := fun a m => qread_back l a r m (fun d hd => h d (by simp [hd]))
    by_cases hs : c.toNat = 34 ∨ c.toNat = 92
    · rw [h1, escC_two hs]
      show qread (92 :: c :: (escL l ++ 34 :: r)) acc n = _
      rw [qread_esc (by decide) hv, ih]
      simp; omega
    · rw [h1, escC_one hs]
      show qread (c :: (escL l ++ 34 :: r)) acc n = _
      rw [qread_plain (by omega) (by omega) hv, ih]
      simp; omega
theorem quoted_back (s b : ByteArray) (ht : tokenB s = false) (hv : allB valueB s = true) :
    quotedS (quoteS s ++ ⟨#[44]⟩ ++ b) = s ∧ quotedN (quoteS s ++ ⟨#[44]⟩ ++ b) = (quoteS s).size ∧ 0 < (quoteS s).size := by
  have hq := (quoteS_yes ht hv).1
  have hl : (quoteS s).data.toList = 34 :: escL s.data.toList ++ [34] := by rw [hq]
  have hall : ∀ c ∈ s.data.toList, valueB c.toNat = true := by unfold allB at hv; rw [List.all_eq_true] at hv; exact hv
  have key : quotedL (quoteS s ++ ⟨#[44]⟩ ++ b).data.toList = some (s.data.toList, (quoteS s).size) := by
    rw [app_list, app_list, hl]
    show quotedL (34 :: (escL s.data.toList ++ [34] ++ [44] ++ b.data.toList)) = _
    rw [quotedL, if_pos (by decide)]
    have e : escL s.data.toList ++ [34] ++ [44] ++ b.data.toList = escL s.data.toList ++ 34 :: ([44] ++ b.data.toList) := by simp
    rw [e, qread_back _ _ _ _ hall, ba_len hl]
    try (simp; done)
    try (simp; omega)
  have h2 := quoted_some key
  refine ⟨by rw [h2.1], h2.2, by rw [ba_len hl]; simp⟩
theorem token_back (s b : ByteArray) (ht : tokenB s = true) : preN tcharB (s ++ ⟨#[44]⟩ ++ b) = s.size := by
  have hl : (s ++ ⟨#[44]⟩ ++ b).data.toList = s.data.toList ++ 44 :: b.data.toList := by rw [app_list, app_list]; simp
  have hsz : (s ++ ⟨#[44]⟩ ++ b).size = s.size + 1 + b.size := by rw [ba_len hl, List.length_append, List.length_cons, ← ba_size, ← ba_size]; omega
  unfold tokenB at ht
  simp only [Bool.and_eq_true] at ht
  have hall := ht.2
  unfold allB at hall
  rw [List.all_eq_true] at hall
  refine preN_of (by omega) (fun j hj => ?_) (.inr ⟨by omega, ?_⟩)
  · have hj2 : j < (s ++ ⟨#[44]⟩ ++ b).size := by omega
    rw [← bt_list _ j hj2]
    have : (s ++ ⟨#[44]⟩ ++ b).data.toList[j]'(by rw [← ba_size]; exact hj2) = s.data.toList[j]'(by rw [← ba_size]; exact hj) := by
      simp only [hl]; exact List.getElem_append_left _
    rw [this]
    exact hall _ (List.getElem_mem _)
  · have hj2 : s.size < (s ++ ⟨#[44]⟩ ++ b).size := by omega
    rw [← bt_list _ _ hj2]
    have : (s ++ ⟨#[44]⟩ ++ b).data.toList[s.size]'(by rw [← ba_size]; exact hj2) = 44 := by
      simp only [hl]; rw [List.getElem_append_right (by rw [← ba_size]; omega)]; simp only [← ba_size, Nat.sub_self]; rfl
    rw [this]; decide +kernel
theorem up_front (s b : ByteArray) : upB (s ++ ⟨#[44]⟩ ++ b) s.size = s := ba_ext (by rw [upB_list, app_list, app_list, ba_size]; simp)
theorem from_front (s b : ByteArray) : fromB (s ++ ⟨#[44]⟩ ++ b) s.size = ⟨#[44]⟩ ++ b := ba_ext (by rw [fromB_list, app_list, app_list, app_list, ba_size]; simp)
theorem quoteS_ne (s : ByteArray) (ht : tokenB s = false) (hv : allB valueB s = true) : s.size < (quoteS s).size := by
  have hl : (quoteS s).data.toList = 34 :: escL s.data.toList ++ [34] := by rw [(quoteS_yes ht hv).1]
  have : ∀ l : List UInt8, l.length ≤ (escL l).length := by
    intro l
    induction l with
    | nil => simp
    | cons c l ih =>
      have h1 : escL (c :: l) = escC c ++ escL l := by simp [escL]
      have h2 : 1 ≤ (escC c).length := by unfold escC; split <;> simp
      rw [h1, List.length_append, List.length_cons]; omega
  have := this s.data.toList
  rw [← ba_size] at this
  rw [ba_len hl]
  simp; omega
theorem quoteS_len (s : ByteArray) : (quoteS s).size ≤ 2 * s.size + 2 := by
  have h := escL_len s.data.toList
  unfold quoteS
  split
  · omega
  · split
    · rw [← ba_size] at h
      have hl : (⟨(34 :: escL s.data.toList ++ [34]).toArray⟩ : ByteArray).size = (escL s.data.toList).length + 2 := by rw [ba_size]; simp
      rw [hl]; omega
    · have : (⟨#[]⟩ : ByteArray).size = 0 := rfl
      omega

theorem cback_tok (x y : ByteArray) (ht : tokenB x = true) : upB (fromB (x ++ ⟨#[44]⟩ ++ y) 0) (preN tcharB (fromB (x ++ ⟨#[44]⟩ ++ y) 0)) = x ∧ 0 + preN tcharB (fromB (x ++ ⟨#[44]⟩ ++ y) 0) = x.size ∧ fromB (x ++ ⟨#[44]⟩ ++ y) x.size = ⟨#[44]⟩ ++ y := by
  rw [fromB_zero, token_back x y ht]
  exact ⟨up_front x y, by omega, from_front x y⟩
theorem cback_quo (x y : ByteArray) (ht : tokenB x = false) (hv : allB valueB x = true) : quotedS (fromB (quoteS x ++ ⟨#[44]⟩ ++ y) 0) = x ∧ quotedN (fromB (quoteS x ++ ⟨#[44]⟩ ++ y) 0) = (quoteS x).size ∧ fromB (quoteS x ++ ⟨#[44]⟩ ++ y) (0 + (quoteS x).size) = ⟨#[44]⟩ ++ y ∧ 0 < (quoteS x).size := by
  rw [fromB_zero]
  obtain ⟨h1, h2, h3⟩ := quoted_back x y ht hv
  exact ⟨h1, h2, by rw [Nat.zero_add]; exact from_front _ y, h3⟩
theorem join_size (q y : ByteArray) : (q ++ ⟨#[44]⟩ ++ y).size = q.size + 1 + y.size := by
  have h92 : (⟨#[44]⟩ : ByteArray).size = 1 := rfl
  rw [ByteArray.size_append, ByteArray.size_append, h92]

end Go.Proofs.Ytjocmjmfkgogiaa
