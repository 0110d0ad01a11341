/- A response's first line (layer 15), as plain functions: the document's, and what the program asks. -/
import Derived.Test.YtcbfhlnnfnpkdaaGreatDoorStd
namespace Go.Proofs.YtcbfhlnnfnpkdaaGreatDoor
open Go.RowKit
set_option linter.unusedVariables false
set_option linter.unusedSimpArgs false

theorem bt_ext (s : ByteArray) {a b j : Nat} (h : a + j < b) (hb : b ≤ s.size) : bt (s.extract a b) j = bt s (a + j) := by
  have hs : (s.extract a b).size = b - a := by rw [ba_size', Lib.extract_data, List.length_take, List.length_drop, ← ba_size']; omega
  have h1 : j < (s.extract a b).size := by omega
  rw [← bt_list _ j h1, ← bt_list s (a + j) (by omega)]
  congr 1
  have e := Lib.extract_data s a b
  have g : (s.extract a b).data.toList[j]? = s.data.toList[a + j]? := by rw [e, List.getElem?_take_of_lt (by omega), List.getElem?_drop]
  rw [List.getElem?_eq_getElem (by rw [← ba_size']; exact h1), List.getElem?_eq_getElem (by rw [← ba_size']; omega)] at g
  exact Option.some.inj g
theorem ext_len (s : ByteArray) {a b : Nat} (hb : b ≤ s.size) : (s.extract a b).size = b - a := by rw [ba_size', Lib.extract_data, List.length_take, List.length_drop, ← ba_size']; omega
theorem ext_len' (s : ByteArray) (a : Nat) : (s.extract a s.size).size = s.size - a := ext_len s (Nat.le_refl _)
theorem ext_ext (s : ByteArray) {a b c : Nat} (h : c ≤ s.size) : (s.extract a s.size).extract b (c - a) = s.extract (a + b) c := by
  refine ba_ext ?_
  rw [Lib.extract_data, Lib.extract_data, Lib.extract_data, ba_size']
  rw [List.drop_take, List.drop_drop, List.take_take]
  congr 1
  rw [ba_size'] at h
  omega

theorem digV_digC (n : Nat) : digV n < 10 ↔ digC n = true := by
  unfold digC digV
  simp only [Bool.and_eq_true, decide_eq_true_eq]
  repeat' split
  all_goals omega
theorem valN_lt (b : Nat) (hb : 1 ≤ b) : ∀ l : List UInt8, (∀ c ∈ l, digV c.toNat < b) → valN b l < b ^ l.length
  | [], _ => by simp [valN]
  | c :: l, h => by
    have ih := valN_lt b hb l fun d hd => h d (by simp [hd])
    have hc := h c (by simp)
    rw [valN_cons, List.length_cons, Nat.pow_succ]
    have : (digV c.toNat + 1) * b ^ l.length ≤ b * b ^ l.length := Nat.mul_le_mul_right _ hc
    rw [Nat.add_mul, Nat.one_mul, Nat.mul_comm b] at this
    omega

/-- P15.3. -/
def staF (s : ByteArray) : Bool := decide (12 ≤ s.size) && (formS (s.extract 0 8) && (decide (bt s 8 = 32) && (digC (bt s 9) && (digC (bt s 10) && (digC (bt s 11) && (decide (s.size ≤ 12) || decide (bt s 12 = 32)))))))
def staV (s : ByteArray) : Nat := valN 10 (s.extract 9 12).data.toList
def staX (s : ByteArray) : ByteArray := s.extract 13 s.size
def staE (s : ByteArray) : Int := if staF s = false then 3 else if minE (s.extract 0 8) ≠ 0 then minE (s.extract 0 8) else if staV s < 100 ∨ 599 < staV s then 12 else if allB valueB (staX s) = false then 7 else 0
def staN (s : ByteArray) : Int := if staE s = 0 then minN (s.extract 0 8) else 0
def staS (s : ByteArray) : Int := if staE s = 0 then (staV s : Int) else 0
def staR (s : ByteArray) : ByteArray := if staE s = 0 then staX s else ⟨#[]⟩
def StaBad (s : ByteArray) (e : Int) : Prop := staE s = e ∧ staN s = 0 ∧ staS s = 0 ∧ staR s = ⟨#[]⟩
theorem sta_bad {s : ByteArray} {e : Int} (h : staE s = e) (he : e ≠ 0) : StaBad s e := by
  subst h
  exact ⟨rfl, by unfold staN; rw [if_neg he], by unfold staS; rw [if_neg he], by unfold staR; rw [if_neg he]⟩
theorem sta_cases (s : ByteArray) :
    (staF s = false ∧ StaBad s 3) ∨
    (staF s = true ∧ minE (s.extract 0 8) ≠ 0 ∧ StaBad s (minE (s.extract 0 8))) ∨
    (staF s = true ∧ minE (s.extract 0 8) = 0 ∧ (staV s < 100 ∨ 599 < staV s) ∧ StaBad s 12) ∨
    (staF s = true ∧ minE (s.extract 0 8) = 0 ∧ 100 ≤ staV s ∧ staV s ≤ 599 ∧ allB valueB (staX s) = false ∧ StaBad s 7) ∨
    (staF s = true ∧ minE (s.extract 0 8) = 0 ∧ 100 ≤ staV s ∧ staV s ≤ 599 ∧ allB valueB (staX s) = true ∧ staE s = 0 ∧ staN s = minN (s.extract 0 8) ∧ staS s = (staV s : Int) ∧ staR s = staX s) := by
  cases h1 : staF s
  · exact .inl ⟨rfl, sta_bad (by unfold staE; rw [if_pos h1]) (by decide)⟩
  · by_cases h2 : minE (s.extract 0 8) = 0
    · by_cases h3 : staV s < 100 ∨ 599 < staV s
      · exact .inr (.inr (.inl ⟨rfl, h2, h3, sta_bad (by unfold staE; rw [if_neg (by rw [h1]; decide), if_neg (by omega), if_pos h3]) (by decide)⟩))
      · cases h4 : allB valueB (staX s)
        · exact .inr (.inr (.inr (.inl ⟨rfl, h2, by omega, by omega, rfl, sta_bad (by unfold staE; rw [if_neg (by rw [h1]; decide), if_neg (by omega), if_neg h3, if_pos h4]) (by decide)⟩)))
        · have h5 : staE s = 0 := by unfold staE; rw [if_neg (by rw [h1]; decide), if_neg (by omega), if_neg h3, if_neg (by rw [h4]; decide)]
          exact .inr (.inr (.inr (.inr ⟨rfl, h2, by omega, by omega, rfl, h5, by unfold staN; rw [if_pos h5], by unfold staS; rw [if_pos h5], by unfold staR; rw [if_pos h5]⟩)))
    · exact .inr (.inl ⟨rfl, h2, sta_bad (by unfold staE; rw [if_neg (by rw [h1]; decide), if_pos h2]) h2⟩)

/-- What the program asks of the parts. -/
def sNum (s : ByteArray) : ByteArray := (cut2 s).extract 0 (min 3 (cut2 s).size)
def sRea (s : ByteArray) : ByteArray := (cut2 s).extract (min 3 (cut2 s).size) (cut2 s).size
def sA (s : ByteArray) : Bool := decide (blk1 s < s.size) && decide (minE (cut1 s) ≠ 3)
def sB (s : ByteArray) : Bool := decide ((sNum s).size = 3) && (decide (numE 10 (sNum s) 599 = 0) || decide (numE 10 (sNum s) 599 = 5))
def sC (s : ByteArray) : Bool := decide ((sRea s).size = 0) || decide (bt (sRea s) 0 = 32)
theorem formS_parts {s : ByteArray} (h : formS s = true) : s.size = 8 ∧ s.data.toList.take 5 = httpL ∧ digC (bt s 5) = true ∧ bt s 6 = 46 ∧ digC (bt s 7) = true := by
  unfold formS at h
  simp only [Bool.and_eq_true, decide_eq_true_eq, beq_iff_eq] at h
  exact ⟨h.1.1.1.1, h.1.1.1.2, h.1.1.2, h.1.2, h.2⟩
theorem formS_bt {s : ByteArray} (h : formS s = true) : s.size = 8 ∧ bt s 0 = 72 ∧ bt s 1 = 84 ∧ bt s 2 = 84 ∧ bt s 3 = 80 ∧ bt s 4 = 47 := by
  obtain ⟨h0, h1, -⟩ := formS_parts h
  have hl : s.data.toList.length = 8 := by rw [← ba_size']; exact h0
  have e : ∀ j (hj : j < 5), (s.data.toList[j]'(by omega)) = httpL[j]'(by simpa [httpL] using hj) := by
    intro j hj
    have a : (s.data.toList.take 5)[j]? = httpL[j]? := by rw [h1]
    rw [List.getElem?_take_of_lt hj, List.getElem?_eq_getElem (by omega), List.getElem?_eq_getElem (by simpa [httpL] using hj)] at a
    exact Option.some.inj a
  refine ⟨h0, ?_, ?_, ?_, ?_, ?_⟩
  · rw [← bt_list s 0 (by omega), e 0 (by omega)]; rfl
  · rw [← bt_list s 1 (by omega), e 1 (by omega)]; rfl
  · rw [← bt_list s 2 (by omega), e 2 (by omega)]; rfl
  · rw [← bt_list s 3 (by omega), e 3 (by omega)]; rfl
  · rw [← bt_list s 4 (by omega), e 4 (by omega)]; rfl
theorem digC_ne {n : Nat} (h : digC n = true) : n ≠ 32 := by
  unfold digC at h
  simp only [Bool.and_eq_true, decide_eq_true_eq] at h
  omega
theorem form_no32 {s : ByteArray} (h : formS s = true) : ∀ j, j < 8 → bt s j ≠ 32 := by
  obtain ⟨_, a0, a1, a2, a3, a4⟩ := formS_bt h
  obtain ⟨_, _, a5, a6, a7⟩ := formS_parts h
  have b5 := digC_ne a5
  have b7 := digC_ne a7
  intro j hj
  rcases (show j = 0 ∨ j = 1 ∨ j = 2 ∨ j = 3 ∨ j = 4 ∨ j = 5 ∨ j = 6 ∨ j = 7 by omega) with rfl | rfl | rfl | rfl | rfl | rfl | rfl | rfl <;> omega
theorem minE_ne3 {s : ByteArray} : minE s ≠ 3 ↔ formS s = true := by
  rcases minE_cases s with ⟨h, e, _⟩ | ⟨h, _, e, _⟩ | ⟨h, _, e, _⟩ <;> rw [h, e] <;> decide
theorem num3 {x : ByteArray} (hx : x.size = 3) (most : Int) : (numE 10 x most = 0 ∨ numE 10 x most = 5) ↔ (digC (bt x 0) = true ∧ digC (bt x 1) = true ∧ digC (bt x 2) = true) := by
  constructor
  · intro h
    have one : ∀ j, j < 3 → digC (bt x j) = true := fun j hj => by
      rw [← digV_digC]
      apply Nat.lt_of_not_le
      intro hge
      have := (num_form (most := most) j (by omega) hge).1
      omega
    exact ⟨one 0 (by omega), one 1 (by omega), one 2 (by omega)⟩
  · intro ⟨h0, h1, h2⟩
    have hok : ∀ j, j < x.size → digV (bt x j) < 10 := fun j hj => by
      rw [digV_digC]
      rcases (show j = 0 ∨ j = 1 ∨ j = 2 by omega) with rfl | rfl | rfl
      · exact h0
      · exact h1
      · exact h2
    by_cases hv : (valN 10 x.data.toList : Int) ≤ most
    · exact .inl (num_fits (by omega) hok hv).1
    · exact .inr (num_great (by omega) hok (by omega)).1
/-- Where the form is right, the parts lie so. -/
theorem sta_parts {s : ByteArray} (h : staF s = true) : 12 ≤ s.size ∧ blk1 s = 8 ∧ cut1 s = s.extract 0 8 ∧ sNum s = s.extract 9 12 ∧ sRea s = s.extract 12 s.size ∧ formS (s.extract 0 8) = true ∧
    digC (bt s 9) = true ∧ digC (bt s 10) = true ∧ digC (bt s 11) = true ∧ (s.size ≤ 12 ∨ bt s 12 = 32) := by
  unfold staF at h
  simp only [Bool.and_eq_true, Bool.or_eq_true, decide_eq_true_eq] at h
  obtain ⟨h0, h1, h2, h3, h4, h5, h6⟩ := h
  have hn := form_no32 h1
  have hb : blk1 s = 8 := upTo_of (by omega) (fun j hj => by
    have := hn j hj
    rw [bt_ext s (by omega) (by omega), Nat.zero_add] at this
    exact this) (.inr h2)
  have hc2 : cut2 s = s.extract 9 s.size := by unfold cut2; rw [hb]
  have hz : (cut2 s).size = s.size - 9 := by rw [hc2, ext_len']
  have hm : min 3 (cut2 s).size = 3 := by omega
  refine ⟨h0, hb, by unfold cut1; rw [hb], ?_, ?_, h1, h3, h4, h5, h6⟩
  · unfold sNum
    rw [hm, hc2]
    exact ext_ext s (a := 9) (b := 0) (c := 12) h0
  · unfold sRea
    rw [hm, hz, hc2]
    exact ext_ext s (a := 9) (b := 3) (c := s.size) (Nat.le_refl _)
theorem staF_iff (s : ByteArray) : staF s = true ↔ (sA s = true ∧ sB s = true ∧ sC s = true) := by
  constructor
  · intro h
    obtain ⟨h0, hb, hc, hn, hr, hf, d0, d1, d2, h6⟩ := sta_parts h
    refine ⟨?_, ?_, ?_⟩
    · unfold sA
      rw [hb, hc, decide_eq_true (minE_ne3.2 hf), Bool.and_true]
      exact decide_eq_true (by omega)
    · unfold sB
      rw [hn, decide_eq_true (show (s.extract 9 12).size = 3 by rw [ext_len s h0]), Bool.true_and, Bool.or_eq_true, decide_eq_true_eq, decide_eq_true_eq]
      rw [num3 (by rw [ext_len s h0]), bt_ext s (by omega) h0, bt_ext s (by omega) h0, bt_ext s (by omega) h0]
      exact ⟨d0, d1, d2⟩
    · unfold sC
      rw [hr, Bool.or_eq_true, decide_eq_true_eq, decide_eq_true_eq]
      rcases h6 with h6 | h6
      · left; rw [ext_len']; omega
      · by_cases hz : s.size ≤ 12
        · left; rw [ext_len']; omega
        · right; rw [bt_ext s (by omega) (Nat.le_refl _)]; exact h6
  · intro ⟨hA, hB, hC⟩
    unfold sA at hA
    simp only [Bool.and_eq_true, decide_eq_true_eq] at hA
    obtain ⟨ha, hf⟩ := hA
    have hf2 := minE_ne3.1 hf
    have hb : blk1 s = 8 := by
      have h8 := (formS_parts hf2).1
      unfold cut1 at h8
      rw [ext_len s (by omega)] at h8
      omega
    have hc1 : cut1 s = s.extract 0 8 := by unfold cut1; rw [hb]
    have h32 : bt s 8 = 32 := by
      have hu : upTo 32 s.data.toList = 8 := hb
      have hl : 8 < s.data.toList.length := by rw [← ba_size']; omega
      have gen : ∀ (l : List UInt8) (k : Nat), upTo 32 l = k → ∀ h : k < l.length, l[k] = 32 := by
        intro l
        induction l with
        | nil => intro k hk h; simp at h
        | cons c r ih =>
          intro k hk h
          unfold upTo at hk
          by_cases hc : c = 32
          · subst hc
            simp at hk
            subst hk; rfl
          · rw [if_neg (by simpa using hc)] at hk
            subst hk
            simpa using ih _ rfl (by simpa using h)
      rw [← bt_list s 8 (by omega), gen _ _ hu hl]; rfl
    unfold sB at hB
    simp only [Bool.and_eq_true, Bool.or_eq_true, decide_eq_true_eq] at hB
    obtain ⟨hn3, hnd⟩ := hB
    have hc2 : cut2 s = s.extract 9 s.size := by unfold cut2; rw [hb]
    have hz : (cut2 s).size = s.size - 9 := by rw [hc2, ext_len']
    have h12 : 12 ≤ s.size := by
      unfold sNum at hn3
      rw [ext_len _ (Nat.min_le_right _ _)] at hn3
      omega
    have hm : min 3 (cut2 s).size = 3 := by omega
    have hnum : sNum s = s.extract 9 12 := by
      unfold sNum
      rw [hm, hc2]
      exact ext_ext s (a := 9) (b := 0) (c := 12) h12
    have hrea : sRea s = s.extract 12 s.size := by
      unfold sRea
      rw [hm, hz, hc2]
      exact ext_ext s (a := 9) (b := 3) (c := s.size) (Nat.le_refl _)
    rw [num3 hn3, hnum, bt_ext s (by omega) h12, bt_ext s (by omega) h12, bt_ext s (by omega) h12] at hnd
    unfold sC at hC
    rw [hrea, Bool.or_eq_true, decide_eq_true_eq, decide_eq_true_eq, ext_len'] at hC
    unfold staF
    simp only [Bool.and_eq_true, Bool.or_eq_true, decide_eq_true_eq]
    refine ⟨h12, by rw [← hc1]; exact hf2, h32, hnd.1, hnd.2.1, hnd.2.2, ?_⟩
    by_cases hz12 : s.size ≤ 12
    · exact .inl hz12
    · right
      rcases hC with hC | hC
      · omega
      · rw [bt_ext s (by omega) (Nat.le_refl _)] at hC
        exact hC
theorem staV_lt {s : ByteArray} (h : staF s = true) : staV s < 1000 := by
  obtain ⟨h0, hb, hc, hn, hr, hf, d0, d1, d2, h6⟩ := sta_parts h
  have hl : (s.extract 9 12).data.toList.length = 3 := by rw [← ba_size', ext_len s h0]
  have := valN_lt 10 (by omega) (s.extract 9 12).data.toList (fun c hc => by
    obtain ⟨j, hj, rfl⟩ := List.getElem_of_mem hc
    have hj3 : j < 3 := by omega
    rw [bt_list _ j (by rw [ba_size']; exact hj), bt_ext s (by omega) h0, digV_digC]
    rcases (show j = 0 ∨ j = 1 ∨ j = 2 by omega) with rfl | rfl | rfl
    · exact d0
    · exact d1
    · exact d2)
  rw [hl] at this
  exact this
theorem staV_ok {s : ByteArray} (h : staF s = true) : ∀ j, j < (s.extract 9 12).size → digV (bt (s.extract 9 12) j) < 10 := by
  obtain ⟨h0, hb, hc, hn, hr, hf, d0, d1, d2, h6⟩ := sta_parts h
  intro j hj
  rw [ext_len s h0] at hj
  rw [bt_ext s (by omega) h0, digV_digC]
  rcases (show j = 0 ∨ j = 1 ∨ j = 2 by omega) with rfl | rfl | rfl
  · exact d0
  · exact d1
  · exact d2
/-- The number, to 999, and to 599. -/
theorem sta_num {s : ByteArray} (h : staF s = true) : numE 10 (s.extract 9 12) 999 = 0 ∧ numV 10 (s.extract 9 12) 999 = (staV s : Int) ∧
    (staV s ≤ 599 → numE 10 (sNum s) 599 = 0 ∧ numV 10 (sNum s) 599 = (staV s : Int)) ∧ (599 < staV s → numE 10 (sNum s) 599 = 5 ∧ numV 10 (sNum s) 599 = 0) := by
  have hv := staV_lt h
  have hok := staV_ok h
  obtain ⟨h0, hb, hc, hn, hr, hf, d0, d1, d2, h6⟩ := sta_parts h
  have hz : (s.extract 9 12).size ≠ 0 := by rw [ext_len s h0]; decide
  obtain ⟨a, b⟩ := num_fits (most := 999) hz hok (by unfold staV at hv; omega)
  refine ⟨a, b, fun h9 => ?_, fun h9 => ?_⟩
  · rw [hn]
    exact num_fits hz hok (by unfold staV at h9; omega)
  · rw [hn]
    exact num_great hz hok (by unfold staV at h9; omega)
/-- What stands behind the number, with its blank, or without. -/
theorem sta_reason {s : ByteArray} (h : staF s = true) : allB valueB (sRea s) = allB valueB (staX s) ∧ ((sRea s).size = 0 ∧ staX s = ⟨#[]⟩ ∧ sRea s = ⟨#[]⟩ ∨ (0 < (sRea s).size ∧ bt (sRea s) 0 = 32 ∧ (sRea s).extract 1 (sRea s).size = staX s)) := by
  obtain ⟨h0, hb, hc, hn, hr, hf, d0, d1, d2, h6⟩ := sta_parts h
  have hsz : (sRea s).size = s.size - 12 := by rw [hr, ext_len']
  have hx : (staX s).size = s.size - 13 := by unfold staX; rw [ext_len']
  have emp : ∀ t : ByteArray, t.size = 0 → t = ⟨#[]⟩ := fun t ht => by
    rw [ba_size'] at ht
    have := List.length_eq_zero_iff.1 ht
    cases t with | mk d => simp at this; rw [this]
  by_cases hz : s.size ≤ 12
  · have e1 := emp (sRea s) (by omega)
    have e2 := emp (staX s) (by omega)
    exact ⟨by rw [e1, e2], .inl ⟨by omega, e2, e1⟩⟩
  · have h32 := h6.resolve_left hz
    have b0 : bt (sRea s) 0 = 32 := by rw [hr, bt_ext s (by omega) (Nat.le_refl _)]; exact h32
    have ex : (sRea s).extract 1 (sRea s).size = staX s := by
      rw [hsz, hr]
      exact ext_ext s (a := 12) (b := 1) (c := s.size) (Nat.le_refl _)
    refine ⟨?_, .inr ⟨by omega, b0, ex⟩⟩
    have hd : (sRea s).data.toList = 32 :: (staX s).data.toList := by
      rw [← ex, Lib.extract_data, ba_size']
      cases hq : (sRea s).data.toList with
      | nil => have := ba_size' (sRea s); rw [hq, List.length_nil] at this; omega
      | cons c r =>
        have hb0 := bt_cons hq
        rw [b0] at hb0
        have : c = 32 := UInt8.toNat_inj.1 (by rw [← hb0]; rfl)
        subst this
        simp
    unfold allB
    rw [hd]
    simp [valueB]
end Go.Proofs.YtcbfhlnnfnpkdaaGreatDoor
