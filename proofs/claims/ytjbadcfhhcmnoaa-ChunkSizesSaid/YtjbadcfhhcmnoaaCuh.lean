/- Texts read from their beginning: the document's examples; the laws CursorQuotes and CursorBack. -/
import Derived.Test.YtjbadcfhhcmnoaaCug
namespace Go.Proofs.Ytjbadcfhhcmnoaa
open Go.RowKit
set_option linter.unusedVariables false
set_option linter.unusedSimpArgs false

set_option maxHeartbeats 800000 in
theorem cur_new (s : ByteArray) (w : World) (hs : s.size ≤ 9223372036854775807) :
    Calls Try.prog 15 #[.string s] w fun e w' => e = .returned (.pointer (some ⟨w.heap.size, 0, none⟩)) ∧ Below w.heap.size w w' ∧ CurAt w.heap.size s 0 w' := by
  go_enter Try.func15, Try.ntmps15
  go_wp2_with fail
  go_ret
  refine ⟨rfl, (Below.refl _ _).alloc (Nat.le_refl _) _, ⟨?_, ?_, ?_, ?_, by omega, hs, heap_alloc_new _ _⟩⟩
  · go_simp
  · go_simp
  · go_simp
  · simp

theorem ex4a : quoteS ⟨#[97, 32, 98]⟩ = ⟨#[34, 97, 32, 98, 34]⟩ ∧ quoteOk ⟨#[97, 32, 98]⟩ = true := by decide +kernel
theorem ex4b : quotedS (fromB ⟨#[34, 97, 92, 34, 98, 34, 120]⟩ 0) = ⟨#[97, 34, 98]⟩ ∧ quotedN (fromB ⟨#[34, 97, 92, 34, 98, 34, 120]⟩ 0) = 6 ∧ fromB ⟨#[34, 97, 92, 34, 98, 34, 120]⟩ (0 + 6) = ⟨#[120]⟩ := by decide +kernel

set_option maxRecDepth 100000 in
set_option maxHeartbeats 800000 in
theorem lives4_any (w : World) :
    Calls Try.prog 27 #[] w fun e w' => e = .returned (.bool true) ∧ Below w.heap.size w w' := by
  have E1 := Lib.hid ex4a
  have E2 := Lib.hid ex4b
  go_enter Try.func27, Try.ntmps27
  go_wp2_with fail
  refine (cur_quote _ _ (by decide)).mono ?_
  rintro e w1 ⟨rfl, hb1⟩
  rw [E1.out.1, E1.out.2]
  go_wp2_with fail
  refine (cur_new _ _ (by decide)).mono ?_
  rintro e w2 ⟨rfl, hb2, hc2⟩
  have HC2 := Lib.hid hc2
  clear hc2
  go_wp2_with fail
  refine (cur_quoted _ _ _ _ HC2.out (by decide)).mono ?_
  rintro e w3 ⟨rfl, ht3⟩
  rw [E2.out.1, E2.out.2.1]
  rw [E2.out.2.1] at ht3
  have HT3 := Lib.hid ht3
  clear ht3
  go_wp2_with fail
  refine (cur_left _ _ _ _ HT3.out.2).mono ?_
  rintro e w4 ⟨rfl, hb4⟩
  rw [E2.out.2.2]
  go_wp2_with fail
  go_ret
  refine ⟨ret_bool (by decide +kernel), ?_⟩
  have h3 : Below w1.heap.size w2 w3 := HT3.out.1.below (Nat.le_refl _) hb2.size
  have h4 : Below w1.heap.size w1 w3 := hb2.trans h3
  exact below_thn (below_thn hb1 h4) hb4

/-- x is s, or its first n octets. -/
def Cut (n : Nat) (s x : ByteArray) : Prop := (s.size ≤ n ∧ x = s) ∨ (¬ s.size ≤ n ∧ x = s.extract 0 n)
theorem cut_any (n : Nat) (s : ByteArray) : ∃ x, Cut n s x := by
  by_cases h : s.size ≤ n
  · exact ⟨s, .inl ⟨h, rfl⟩⟩
  · exact ⟨_, .inr ⟨h, rfl⟩⟩
theorem Cut.le {n : Nat} {s x : ByteArray} (h : Cut n s x) : x.size ≤ n := by
  rcases h with ⟨h, rfl⟩ | ⟨_, rfl⟩
  · exact h
  · rw [ba_size, Lib.extract_data]; simp; omega

set_option maxRecDepth 100000 in
set_option maxHeartbeats 4000000 in
theorem cquotes_core (s x : ByteArray) (hc : Cut 1000 s x) (hs : s.size ≤ maxLen) (w : World) :
    Calls Try.prog 4 #[.string s] w fun e w' => e = .returned (.bool true) ∧ Below w.heap.size w w' := by
  have HL := Lib.hid hc.le
  have he3 : ((⟨#[]⟩ : ByteArray) ++ ⟨#[]⟩ ++ ⟨#[]⟩).toList = [] := by decide +kernel
  unfold maxLen at hs
  rcases hc with ⟨hn, hx⟩ | ⟨hn, hx⟩
  all_goals
    have HX := Lib.hid hx
    clear hx
    go_enter Try.func4, Try.ntmps4
    go_wp2_with fail
    rw [← HX.out]
    refine (cur_quote _ _ (by have := HL.out; omega)).mono ?_
    rintro e w1 ⟨rfl, hb1⟩
    go_wp2_with fail
    refine (ref_quote_any _ _ (by have := HL.out; omega)).mono ?_
    rintro e w' ⟨rfl, rfl⟩
    go_wp2_with fail
    refine (cur_quoted_none _).mono ?_
    rintro e w2 ⟨rfl, hb2⟩
    go_wp2_with fail
    refine (cur_left_none _).mono ?_
    rintro e w3 ⟨rfl, hb3⟩
    go_wp2_with fail
    refine (cur_token_none _).mono ?_
    rintro e w4 ⟨rfl, hb4⟩
    go_wp2_with fail
    refine (cur_until_none _ _).mono ?_
    rintro e w5 ⟨rfl, hb5⟩
    go_wp2_with fail
    refine (cur_done_none _).mono ?_
    rintro e w6 ⟨rfl, hb6⟩
    go_wp2_with fail
    refine (cur_skip_none _).mono ?_
    rintro e w7 ⟨rfl, hb7⟩
    go_wp2_with fail
    refine (cur_byte_none _ _).mono ?_
    rintro e w8 ⟨rfl, hb8⟩
    go_wp2_with fail
    refine (lives4_any _).mono ?_
    rintro e w9 ⟨rfl, hb9⟩
    go_wp2_with fail
    go_ret
    exact ⟨rfl, below_thn (below_thn (below_thn (below_thn (below_thn (below_thn (below_thn (below_thn hb1 hb2) hb3) hb4) hb5) hb6) hb7) hb8) hb9⟩
theorem cquotes_walk (s : ByteArray) (w : World) (hs : s.size ≤ maxLen) :
    Calls Try.prog 4 #[.string s] w fun e w' => e = .returned (.bool true) ∧ Below w.heap.size w w' := by
  obtain ⟨x, hx⟩ := cut_any 1000 s
  exact cquotes_core s x hx hs w

/-! ### A text comes back from its quoted one -/
theorem qread_back : ∀ (l acc r : List UInt8) (n : Nat), (∀ c ∈ l, valueB c.toNat = true) → qread (escL l ++ 34 :: r) acc n = some (acc ++ l, n + (escL l).length + 1)
  | [], acc, r, n, _ => by
    have : escL [] = [] := rfl
    rw [this, List.nil_append, qread_q (by decide)]; simp
  | c :: l, acc, r, n, h => by
    have h1 : escL (c :: l) = escC c ++ escL l := by simp [escL]
    have hv := h c (by simp)
    have ih := fun a m => qread_back l a r m (fun d hd => h d (by simp [hd]))
    by_cases hs : c.toNat = 34 ∨ c.toNat = 92
    · rw [h1, escC_two hs]
      show qread (92 :: c :: (escL l ++ 34 :: r)) acc n = _
      rw [qread_esc (by decide) hv, ih]
      simp; omega
    · rw [h1, escC_one hs]
      show qread (c :: (escL l ++ 34 :: r)) acc n = _
      rw [qread_plain (by omega) (by omega) hv, ih]
      simp; omega
theorem quoted_back (s b : ByteArray) (ht : tokenB s = false) (hv : allB valueB s = true) :
    quotedS (quoteS s ++ ⟨#[44]⟩ ++ b) = s ∧ quotedN (quoteS s ++ ⟨#[44]⟩ ++ b) = (quoteS s).size ∧ 0 < (quoteS s).size := by
  have hq := (quoteS_yes ht hv).1
  have hl : (quoteS s).data.toList = 34 :: escL s.data.toList ++ [34] := by rw [hq]
  have hall : ∀ c ∈ s.data.toList, valueB c.toNat = true := by unfold allB at hv; rw [List.all_eq_true] at hv; exact hv
  have key : quotedL (quoteS s ++ ⟨#[44]⟩ ++ b).data.toList = some (s.data.toList, (quoteS s).size) := by
    rw [app_list, app_list, hl]
    show quotedL (34 :: (escL s.data.toList ++ [34] ++ [44] ++ b.data.toList)) = _
    rw [quotedL, if_pos (by decide)]
    have e : escL s.data.toList ++ [34] ++ [44] ++ b.data.toList = escL s.data.toList ++ 34 :: ([44] ++ b.data.toList) := by simp
    rw [e, qread_back _ _ _ _ hall, ba_len hl]
    try (simp; done)
    try (simp; omega)
  have h2 := quoted_some key
  refine ⟨by rw [h2.1], h2.2, by rw [ba_len hl]; simp⟩
theorem token_back (s b : ByteArray) (ht : tokenB s = true) : preN tcharB (s ++ ⟨#[44]⟩ ++ b) = s.size := by
  have hl : (s ++ ⟨#[44]⟩ ++ b).data.toList = s.data.toList ++ 44 :: b.data.toList := by rw [app_list, app_list]; simp
  have hsz : (s ++ ⟨#[44]⟩ ++ b).size = s.size + 1 + b.size := by rw [ba_len hl, List.length_append, List.length_cons, ← ba_size, ← ba_size]; omega
  unfold tokenB at ht
  simp only [Bool.and_eq_true] at ht
  have hall := ht.2
  unfold allB at hall
  rw [List.all_eq_true] at hall
  refine preN_of (by omega) (fun j hj => ?_) (.inr ⟨by omega, ?_⟩)
  · have hj2 : j < (s ++ ⟨#[44]⟩ ++ b).size := by omega
    rw [← bt_list _ j hj2]
    have : (s ++ ⟨#[44]⟩ ++ b).data.toList[j]'(by rw [← ba_size]; exact hj2) = s.data.toList[j]'(by rw [← ba_size]; exact hj) := by
      simp only [hl]; exact List.getElem_append_left _
    rw [this]
    exact hall _ (List.getElem_mem _)
  · have hj2 : s.size < (s ++ ⟨#[44]⟩ ++ b).size := by omega
    rw [← bt_list _ _ hj2]
    have : (s ++ ⟨#[44]⟩ ++ b).data.toList[s.size]'(by rw [← ba_size]; exact hj2) = 44 := by
      simp only [hl]; rw [List.getElem_append_right (by rw [← ba_size]; omega)]; simp only [← ba_size, Nat.sub_self]; rfl
    rw [this]; decide +kernel
theorem up_front (s b : ByteArray) : upB (s ++ ⟨#[44]⟩ ++ b) s.size = s := ba_ext (by rw [upB_list, app_list, app_list, ba_size]; simp)
theorem from_front (s b : ByteArray) : fromB (s ++ ⟨#[44]⟩ ++ b) s.size = ⟨#[44]⟩ ++ b := ba_ext (by rw [fromB_list, app_list, app_list, app_list, ba_size]; simp)
theorem quoteS_ne (s : ByteArray) (ht : tokenB s = false) (hv : allB valueB s = true) : s.size < (quoteS s).size := by
  have hl : (quoteS s).data.toList = 34 :: escL s.data.toList ++ [34] := by rw [(quoteS_yes ht hv).1]
  have : ∀ l : List UInt8, l.length ≤ (escL l).length := by
    intro l
    induction l with
    | nil => simp
    | cons c l ih =>
      have h1 : escL (c :: l) = escC c ++ escL l := by simp [escL]
      have h2 : 1 ≤ (escC c).length := by unfold escC; split <;> simp
      rw [h1, List.length_append, List.length_cons]; omega
  have := this s.data.toList
  rw [← ba_size] at this
  rw [ba_len hl]
  simp; omega
theorem quoteS_len (s : ByteArray) : (quoteS s).size ≤ 2 * s.size + 2 := by
  have h := escL_len s.data.toList
  unfold quoteS
  split
  · omega
  · split
    · rw [← ba_size] at h
      have hl : (⟨(34 :: escL s.data.toList ++ [34]).toArray⟩ : ByteArray).size = (escL s.data.toList).length + 2 := by rw [ba_size]; simp
      rw [hl]; omega
    · have : (⟨#[]⟩ : ByteArray).size = 0 := rfl
      omega

theorem cback_tok (x y : ByteArray) (ht : tokenB x = true) : upB (fromB (x ++ ⟨#[44]⟩ ++ y) 0) (preN tcharB (fromB (x ++ ⟨#[44]⟩ ++ y) 0)) = x ∧ 0 + preN tcharB (fromB (x ++ ⟨#[44]⟩ ++ y) 0) = x.size ∧ fromB (x ++ ⟨#[44]⟩ ++ y) x.size = ⟨#[44]⟩ ++ y := by
  rw [fromB_zero, token_back x y ht]
  exact ⟨up_front x y, by omega, from_front x y⟩
theorem cback_quo (x y : ByteArray) (ht : tokenB x = false) (hv : allB valueB x = true) : quotedS (fromB (quoteS x ++ ⟨#[44]⟩ ++ y) 0) = x ∧ quotedN (fromB (quoteS x ++ ⟨#[44]⟩ ++ y) 0) = (quoteS x).size ∧ fromB (quoteS x ++ ⟨#[44]⟩ ++ y) (0 + (quoteS x).size) = ⟨#[44]⟩ ++ y ∧ 0 < (quoteS x).size := by
  rw [fromB_zero]
  obtain ⟨h1, h2, h3⟩ := quoted_back x y ht hv
  exact ⟨h1, h2, by rw [Nat.zero_add]; exact from_front _ y, h3⟩
theorem join_size (q y : ByteArray) : (q ++ ⟨#[44]⟩ ++ y).size = q.size + 1 + y.size := by
  have h92 : (⟨#[44]⟩ : ByteArray).size = 1 := rfl
  rw [ByteArray.size_append, ByteArray.size_append, h92]

set_option maxRecDepth 100000 in
set_option maxHeartbeats 4000000 in
theorem cback_core (s b x y : ByteArray) (hc : Cut 1000 s x) (hd : Cut 300 b y) (hs : s.size ≤ maxLen) (hb : b.size ≤ maxLen) (w : World) :
    Calls Try.prog 5 #[.string s, .string b] w fun e w' => e = .returned (.bool true) ∧ Below w.heap.size w w' := by
  have HL := Lib.hid hc.le
  have HLb := Lib.hid hd.le
  have hemp : ((⟨#[]⟩ : ByteArray)).toList = [] := by decide +kernel
  have hxs := hc.le
  have hys := hd.le
  have hqs := quoteS_len x
  unfold maxLen at hs hb
  have hway : tokenB x = true ∨ (tokenB x = false ∧ allB valueB x = true) ∨ (tokenB x = false ∧ allB valueB x = false) := by
    cases tokenB x
    · cases allB valueB x <;> simp
    · exact .inl rfl
  rcases hway with ht | ⟨ht, hv⟩ | ⟨ht, hv⟩
  · have HQ := Lib.hid (quoteS_tok ht)
    have HK := Lib.hid (cback_tok x y ht)
    have HZ := Lib.hid (join_size x y)
    clear ht
    rcases hc with ⟨hn, hx⟩ | ⟨hn, hx⟩
    all_goals rcases hd with ⟨hm, hy⟩ | ⟨hm, hy⟩
    all_goals
      have HX := Lib.hid hx
      have HY := Lib.hid hy
      clear hx hy
      go_enter Try.func5, Try.ntmps5
      go_wp2_with fail
      go_quiet (fail)
      go_wp2_with fail
      rw [← HX.out, ← HY.out]
      refine (cur_quote _ _ (by have := HL.out; omega)).mono ?_
      rintro e w1 ⟨rfl, hb1⟩
      rw [HQ.out.1, HQ.out.2]
      have HB1 := Lib.hid ((below_drewN w _).trans (hb1.mono (below_drewN w _).size))
      clear hb1
      go_wp2_with fail
      refine (cur_new _ _ (by have := HZ.out; have := HL.out; have := HLb.out; omega)).mono ?_
      rintro e w2 ⟨rfl, hb2, hc2⟩
      have HC2 := Lib.hid hc2
      clear hc2
      go_wp2_with fail
      refine (cur_token _ _ _ _ HC2.out).mono ?_
      rintro e w3 ⟨rfl, ht3⟩
      rw [HK.out.1]
      rw [HK.out.2.1] at ht3
      have HT3 := Lib.hid ht3
      clear ht3
      go_wp2_with fail
      refine (cur_left _ _ _ _ HT3.out.2).mono ?_
      rintro e w4 ⟨rfl, hb4⟩
      rw [HK.out.2.2]
      go_wp2_with fail
      refine (lives4_any _).mono ?_
      rintro e w5 ⟨rfl, hb5⟩
      go_wp2_with fail
      go_ret
      have h3 : Below w1.heap.size w2 w3 := HT3.out.1.below (Nat.le_refl _) hb2.size
      have h4 : Below w1.heap.size w1 w3 := hb2.trans h3
      exact ⟨rfl, below_thn (below_thn (below_thn HB1.out h4) hb4) hb5⟩
  · have HK := Lib.hid (cback_quo x y ht hv)
    have HZ := Lib.hid (join_size (quoteS x) y)
    have HQ2 := Lib.hid (quoteS_len x)
    have hne2 : ((quoteS x).toList == x.toList) = false := by
      rw [beq_eq_false_iff_ne, ByteArray.toList_eq, ByteArray.toList_eq]
      intro h
      have h1 := quoteS_ne x ht hv
      have h2 : (quoteS x).size = x.size := by rw [ba_size (quoteS x), h, ← ba_size]
      omega
    have HQ := Lib.hid (quoteS_yes ht hv)
    clear ht hv
    rcases hc with ⟨hn, hx⟩ | ⟨hn, hx⟩
    all_goals rcases hd with ⟨hm, hy⟩ | ⟨hm, hy⟩
    all_goals
      have HX := Lib.hid hx
      have HY := Lib.hid hy
      clear hx hy
      go_enter Try.func5, Try.ntmps5
      go_wp2_with fail
      go_quiet (fail)
      go_wp2_with fail
      rw [← HX.out, ← HY.out]
      refine (cur_quote _ _ (by have := HL.out; omega)).mono ?_
      rintro e w1 ⟨rfl, hb1⟩
      rw [HQ.out.2]
      have HB1 := Lib.hid ((below_drewN w _).trans (hb1.mono (below_drewN w _).size))
      clear hb1
      go_wp2_with fail
      refine (cur_new _ _ (by have := HZ.out; have := HL.out; have := HLb.out; have := HQ2.out; omega)).mono ?_
      rintro e w2 ⟨rfl, hb2, hc2⟩
      have HC2 := Lib.hid hc2
      clear hc2
      go_wp2_with fail
      refine (cur_quoted _ _ _ _ HC2.out (by have := HZ.out; have := HL.out; have := HLb.out; have := HQ2.out; omega)).mono ?_
      rintro e w3 ⟨rfl, ht3⟩
      rw [HK.out.1, HK.out.2.1, decide_eq_true HK.out.2.2.2]
      rw [HK.out.2.1] at ht3
      have HT3 := Lib.hid ht3
      clear ht3
      go_wp2_with fail
      refine (cur_left _ _ _ _ HT3.out.2).mono ?_
      rintro e w4 ⟨rfl, hb4⟩
      rw [HK.out.2.2.1]
      go_wp2_with fail
      refine (lives4_any _).mono ?_
      rintro e w5 ⟨rfl, hb5⟩
      go_wp2_with fail
      go_ret
      have h3 : Below w1.heap.size w2 w3 := HT3.out.1.below (Nat.le_refl _) hb2.size
      have h4 : Below w1.heap.size w1 w3 := hb2.trans h3
      exact ⟨rfl, below_thn (below_thn (below_thn HB1.out h4) hb4) hb5⟩
  · have HQ := Lib.hid (quoteS_no ht hv)
    clear ht hv
    rcases hc with ⟨hn, hx⟩ | ⟨hn, hx⟩
    all_goals rcases hd with ⟨hm, hy⟩ | ⟨hm, hy⟩
    all_goals
      have HX := Lib.hid hx
      have HY := Lib.hid hy
      clear hx hy
      go_enter Try.func5, Try.ntmps5
      go_wp2_with fail
      go_quiet (fail)
      go_wp2_with fail
      rw [← HX.out, ← HY.out]
      refine (cur_quote _ _ (by have := HL.out; omega)).mono ?_
      rintro e w1 ⟨rfl, hb1⟩
      rw [HQ.out.1, HQ.out.2]
      have HB1 := Lib.hid ((below_drewN w _).trans (hb1.mono (below_drewN w _).size))
      clear hb1
      go_wp2_with fail
      refine (lives4_any _).mono ?_
      rintro e w5 ⟨rfl, hb5⟩
      go_wp2_with fail
      go_ret
      exact ⟨rfl, below_thn HB1.out hb5⟩
theorem cback_walk (s b : ByteArray) (w : World) (hs : s.size ≤ maxLen) (hb : b.size ≤ maxLen) :
    Calls Try.prog 5 #[.string s, .string b] w fun e w' => e = .returned (.bool true) ∧ Below w.heap.size w w' := by
  obtain ⟨x, hx⟩ := cut_any 1000 s
  obtain ⟨y, hy⟩ := cut_any 300 b
  exact cback_core s b x y hx hy hs hb w
end Go.Proofs.Ytjbadcfhhcmnoaa
