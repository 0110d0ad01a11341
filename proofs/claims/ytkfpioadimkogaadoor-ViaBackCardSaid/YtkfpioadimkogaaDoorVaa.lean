/- By whom a message came (layer 20): what a hop is, as plain functions; the two ways of reading it are one. -/
import Derived.Test.YtkfpioadimkogaaDoorCuh
import Derived.Test.YtkfpioadimkogaaDoorHob
namespace Go.Proofs.YtkfpioadimkogaaDoor
open Go.RowKit
set_option linter.unusedVariables false
set_option linter.unusedSimpArgs false

def vaNB (n : Nat) : Bool := !blankN n
def vaSl (n : Nat) : Bool := n != 47
theorem va_tch : ∀ n, n < 256 → tcharB n = true → vaNB n = true ∧ n ≠ 47 := by decide +kernel
theorem va_blank {n : Nat} : vaNB n = false ↔ blankN n = true := by unfold vaNB; cases blankN n <;> simp
theorem va_47 : vaNB 47 = true := by decide
/-- P20.1: a version. -/
def vaVer (x : ByteArray) : Bool := if preN vaSl x < x.size then tokenB (upB x (preN vaSl x)) && tokenB (fromB x (preN vaSl x + 1)) else tokenB x
/-- Is the rest of what is open closed just at the end? -/
def clo : List UInt8 → Bool → Nat → Bool
  | [], _, _ => false
  | _ :: r, true, d => clo r false d
  | c :: r, false, d => if c.toNat = 92 then clo r true d else if c.toNat = 40 then clo r false (d + 1) else if c.toNat = 41 then (if d = 1 then r.isEmpty else clo r false (d - 1)) else clo r false d
def cloB (x : ByteArray) : Bool := decide (0 < x.size) && ((bt x 0 == 40) && clo (x.data.toList.drop 1) false 1)
def vaPl (x : ByteArray) : Bool := tokenB x || (hsE x == 0)

def vaV (s : ByteArray) : ByteArray := upB s (preN vaNB s)
def vaGap (s : ByteArray) : Nat := preN blankN (fromB s (preN vaNB s))
/-- What is left behind the version and the blanks. -/
def vaL (s : ByteArray) : ByteArray := fromB (fromB s (preN vaNB s)) (vaGap s)
def byB (l : ByteArray) : ByteArray := upB l (preN vaNB l)
def tlB (l : ByteArray) : ByteArray := fromB l (preN vaNB l)
def cmB (l : ByteArray) : ByteArray := fromB (tlB l) (preN blankN (tlB l))
/-- Is all right behind the version? -/
def rsB (l : ByteArray) : Bool := vaPl (byB l) && (decide ((tlB l).size = 0) || cloB (cmB l))
def vaOk (s : ByteArray) : Bool := vaVer (vaV s) && (decide (0 < vaGap s) && rsB (vaL s))
def vaE (s : ByteArray) : Int := if s.size = 0 then 2 else if vaOk s = true then 0 else 3
def vaR (s : ByteArray) : ByteArray × ByteArray × ByteArray := if 0 < s.size ∧ vaOk s = true then (vaV s, byB (vaL s), cmB (vaL s)) else (⟨#[]⟩, ⟨#[]⟩, ⟨#[]⟩)

theorem fromB_all (s : ByteArray) (n : Nat) (h : s.size ≤ n) : fromB s n = ⟨#[]⟩ := ba_ext (by rw [fromB_list, List.drop_of_length_le (by rw [← ba_size]; exact h)])
theorem cm_none {l : ByteArray} (h : (tlB l).size = 0) : cmB l = ⟨#[]⟩ := by unfold cmB; exact fromB_all _ _ (by omega)
theorem tok_iff {x : ByteArray} : tokenB x = true ↔ 0 < x.size ∧ ∀ j, j < x.size → tcharB (bt x j) = true := by
  unfold tokenB
  rw [Bool.and_eq_true]
  constructor
  · rintro ⟨h1, h2⟩
    have h0 : 0 < x.size := by
      rw [ba_size]
      cases hl : x.data.toList with
      | nil => rw [hl] at h1; cases h1
      | cons a r => simp
    refine ⟨h0, fun j hj => ?_⟩
    have := List.all_eq_true.1 h2 _ (List.getElem_mem (by rw [← ba_size]; exact hj : j < x.data.toList.length))
    rwa [bt_list x j hj] at this
  · rintro ⟨h0, h2⟩
    refine ⟨?_, allB_true h2⟩
    cases hl : x.data.toList with
    | nil => rw [ba_size, hl] at h0; cases h0
    | cons a r => rfl
theorem upB_bt (s : ByteArray) (n j : Nat) (h : j < n) (hn : n ≤ s.size) : bt (upB s n) j = bt s j := hsUp_bt s n j h hn
/-- How far the version goes for whoever takes it word by word. -/
def vaT (s : ByteArray) : Nat := preN tcharB s
def vaHasSl (s : ByteArray) : Bool := decide (vaT s < s.size) && (bt s (vaT s) == 47)
def vaT2 (s : ByteArray) : Nat := preN tcharB (fromB s (vaT s + 1))
def vaTo (s : ByteArray) : Nat := if vaHasSl s = true then vaT s + 1 + vaT2 s else vaT s
def vaTok (s : ByteArray) : Bool := decide (0 < vaT s) && (!vaHasSl s || decide (0 < vaT2 s))
theorem va_sl_iff {s : ByteArray} : vaHasSl s = true ↔ vaT s < s.size ∧ bt s (vaT s) = 47 := by unfold vaHasSl; rw [Bool.and_eq_true, decide_eq_true_eq, beq_iff_eq]
theorem vaTo_le (s : ByteArray) : vaTo s ≤ s.size := by
  unfold vaTo
  split
  · next h =>
    have h1 := (va_sl_iff.1 h).1
    have h2 := preN_le tcharB (fromB s (vaT s + 1))
    rw [fromB_size] at h2
    unfold vaT2; omega
  · exact preN_le _ _
theorem preN_pos {P : Nat → Bool} {s : ByteArray} (h : 0 < preN P s) : 0 < s.size ∧ P (bt s 0) = true := ⟨Nat.lt_of_lt_of_le h (preN_le P s), preN_in h⟩
/-- Both ways of reading the version, and the blanks behind it, are one. -/
theorem va_ver (s : ByteArray) : (vaTok s && decide (0 < preN blankN (fromB s (vaTo s)))) = (vaVer (vaV s) && decide (0 < vaGap s)) ∧ ((vaTok s && decide (0 < preN blankN (fromB s (vaTo s)))) = true → vaTo s = preN vaNB s) := by
  have key : (vaTok s && decide (0 < preN blankN (fromB s (vaTo s)))) = true → vaTo s = preN vaNB s ∧ vaVer (vaV s) = true := by
    intro h
    rw [Bool.and_eq_true, decide_eq_true_eq] at h
    obtain ⟨hk, hg⟩ := h
    obtain ⟨g0, g1⟩ := preN_pos hg
    rw [fromB_size] at g0
    rw [fromB_bt _ _ _ (by omega), Nat.add_zero] at g1
    unfold vaTok at hk
    rw [Bool.and_eq_true, decide_eq_true_eq] at hk
    obtain ⟨k1, k2⟩ := hk
    have low : ∀ j, j < vaTo s → vaNB (bt s j) = true := by
      intro j hj
      by_cases hjt : j < vaT s
      · exact (va_tch _ (bt_lt s j) (preN_in hjt)).1
      · unfold vaTo at hj
        split at hj
        · next hs =>
          obtain ⟨s1, s2⟩ := va_sl_iff.1 hs
          by_cases hje : j = vaT s
          · rw [hje, s2]; exact va_47
          · have hle := preN_le tcharB (fromB s (vaT s + 1))
            rw [fromB_size] at hle
            have h3 : j - (vaT s + 1) < vaT2 s := by omega
            have h4 := preN_in h3
            unfold vaT2 at h3
            rw [fromB_bt _ _ _ (by omega), show vaT s + 1 + (j - (vaT s + 1)) = j by omega] at h4
            exact (va_tch _ (bt_lt s j) h4).1
        · omega
    have e : preN vaNB s = vaTo s := preN_of (vaTo_le s) low (.inr ⟨by omega, va_blank.2 g1⟩)
    refine ⟨e.symm, ?_⟩
    have hle := vaTo_le s
    have hz : (vaV s).size = vaTo s := by unfold vaV; rw [e, upB_size]; omega
    have hbt : ∀ j, j < vaTo s → bt (vaV s) j = bt s j := fun j hj => by unfold vaV; rw [e]; exact upB_bt s _ j hj hle
    unfold vaVer
    cases hs : vaHasSl s
    · have et : vaTo s = vaT s := by unfold vaTo; rw [hs]; rfl
      have en : preN vaSl (vaV s) = (vaV s).size := preN_of (Nat.le_refl _) (fun j hj => by
        rw [hz] at hj
        rw [hbt j hj]
        have := (va_tch _ (bt_lt s j) (preN_in (by rw [← show vaT s = preN tcharB s from rfl]; omega))).2
        unfold vaSl; exact bne_iff_ne.2 this) (.inl rfl)
      rw [en, if_neg (by omega)]
      exact tok_iff.2 ⟨by omega, fun j hj => by rw [hz] at hj; rw [hbt j hj]; exact preN_in (by rw [← show vaT s = preN tcharB s from rfl]; omega)⟩
    · obtain ⟨s1, s2⟩ := va_sl_iff.1 hs
      have et : vaTo s = vaT s + 1 + vaT2 s := by unfold vaTo; rw [hs]; rfl
      rw [hs] at k2
      have k3 : 0 < vaT2 s := by simpa using k2
      have en : preN vaSl (vaV s) = vaT s := preN_of (by omega) (fun j hj => by
        rw [hbt j (by omega)]
        have := (va_tch _ (bt_lt s j) (preN_in (by rw [← show vaT s = preN tcharB s from rfl]; omega))).2
        unfold vaSl; exact bne_iff_ne.2 this) (.inr ⟨by omega, by rw [hbt _ (by omega), s2]; rfl⟩)
      rw [en, if_pos (by omega), Bool.and_eq_true]
      constructor
      · exact tok_iff.2 ⟨by rw [upB_size]; omega, fun j hj => by
          rw [upB_size] at hj
          rw [upB_bt _ _ _ (by omega) (by omega), hbt j (by omega)]
          exact preN_in (by rw [← show vaT s = preN tcharB s from rfl]; omega)⟩
      · exact tok_iff.2 ⟨by rw [fromB_size]; omega, fun j hj => by
          rw [fromB_size, hz] at hj
          rw [fromB_bt _ _ _ (by rw [hz]; omega), hbt _ (by omega)]
          have h4 : tcharB (bt (fromB s (vaT s + 1)) j) = true := preN_in (by rw [← show vaT2 s = preN tcharB (fromB s (vaT s + 1)) from rfl]; omega)
          rwa [fromB_bt _ _ _ (by omega)] at h4⟩
  have key2 : (vaVer (vaV s) && decide (0 < vaGap s)) = true → vaTok s = true ∧ vaTo s = preN vaNB s := by
    intro h
    rw [Bool.and_eq_true, decide_eq_true_eq] at h
    obtain ⟨hv, hg⟩ := h
    have hN : ∃ n, n = preN vaNB s := ⟨_, rfl⟩
    obtain ⟨n, hn⟩ := hN
    unfold vaGap at hg
    rw [← hn] at hg
    obtain ⟨g0, g1⟩ := preN_pos hg
    rw [fromB_size] at g0
    rw [fromB_bt _ _ _ (by omega), Nat.add_zero] at g1
    have hnt : tcharB (bt s n) = false := by
      cases ht : tcharB (bt s n)
      · rfl
      · have := (va_tch _ (bt_lt s n) ht).1
        rw [va_blank.2 g1] at this; cases this
    have h47 : bt s n ≠ 47 := fun q => by rw [q] at g1; revert g1; decide
    have hz : (vaV s).size = n := by unfold vaV; rw [← hn, upB_size]; omega
    have hbt : ∀ j, j < n → bt (vaV s) j = bt s j := fun j hj => by unfold vaV; rw [← hn]; exact upB_bt s _ j hj (by omega)
    unfold vaVer at hv
    have hkle := preN_le vaSl (vaV s)
    split at hv
    · next hk =>
      have k2 := preN_stop hk
      generalize preN vaSl (vaV s) = k at *
      rw [Bool.and_eq_true] at hv
      obtain ⟨t1, t2⟩ := hv
      obtain ⟨a1, a2⟩ := tok_iff.1 t1
      obtain ⟨b1, b2⟩ := tok_iff.1 t2
      rw [upB_size] at a1 a2
      rw [fromB_size] at b1 b2
      have s2 : bt s k = 47 := by
        rw [hbt k (by omega)] at k2
        unfold vaSl at k2
        simpa using k2
      have et : vaT s = k := preN_of (by omega) (fun j hj => by
        have := a2 j (by omega)
        rwa [upB_bt _ _ _ (by omega) (by omega), hbt j (by omega)] at this) (.inr ⟨by omega, by rw [s2]; decide⟩)
      have hs : vaHasSl s = true := va_sl_iff.2 ⟨by omega, by rw [et]; exact s2⟩
      have et2 : vaT2 s = n - (k + 1) := by
        unfold vaT2
        rw [et]
        refine preN_of (by rw [fromB_size]; omega) (fun j hj => ?_) (.inr ⟨by rw [fromB_size]; omega, ?_⟩)
        · rw [fromB_bt _ _ _ (by omega)]
          have := b2 j (by omega)
          rwa [fromB_bt _ _ _ (by omega), hbt _ (by omega)] at this
        · rw [fromB_bt _ _ _ (by omega), show k + 1 + (n - (k + 1)) = n by omega]; exact hnt
      refine ⟨?_, ?_⟩
      · unfold vaTok
        rw [hs, et, et2, decide_eq_true (show 0 < k by omega), decide_eq_true (show 0 < n - (k + 1) by omega)]; rfl
      · unfold vaTo
        rw [hs, if_pos rfl, et, et2, ← hn]; omega
    · next hk =>
      obtain ⟨a1, a2⟩ := tok_iff.1 hv
      have et : vaT s = n := preN_of (by omega) (fun j hj => by
        have := a2 j (by omega)
        rwa [hbt j hj] at this) (.inr ⟨by omega, hnt⟩)
      have hs : vaHasSl s = false := by
        cases h : vaHasSl s
        · rfl
        · have := (va_sl_iff.1 h).2
          rw [et] at this
          exact absurd this h47
      refine ⟨?_, ?_⟩
      · unfold vaTok
        rw [hs, et, decide_eq_true (show 0 < n by omega)]; rfl
      · unfold vaTo
        rw [hs, et, ← hn]; rfl
  refine ⟨?_, fun h => (key h).1⟩
  rw [Bool.eq_iff_iff]
  constructor
  · intro h
    obtain ⟨k1, k2⟩ := key h
    rw [Bool.and_eq_true] at h ⊢
    refine ⟨k2, ?_⟩
    unfold vaGap
    rw [← k1]; exact h.2
  · intro h
    obtain ⟨k1, k2⟩ := key2 h
    rw [Bool.and_eq_true] at h ⊢
    refine ⟨k1, ?_⟩
    have := h.2
    unfold vaGap at this
    rw [k2]; exact this
end Go.Proofs.YtkfpioadimkogaaDoor
