/- First lines (layer 15), as plain functions: versions, a request's line, a response's line; where blanks stand. -/
import Derived.Test.YtcbfhlnnfnpkdaaGreatDoorUps
import Derived.Test.YtcbfhlnnfnpkdaaGreatDoorTxt
import Derived.Test.YtcbfhlnnfnpkdaaGreatDoorPb
namespace Go.Proofs.YtcbfhlnnfnpkdaaGreatDoor
open Go.RowKit
set_option linter.unusedVariables false
set_option linter.unusedSimpArgs false

def digC (n : Nat) : Bool := decide (48 ≤ n) && decide (n ≤ 57)
def httpL : List UInt8 := [72, 84, 84, 80, 47]
/-- P15.1: has a text the form of a version? -/
def formS (s : ByteArray) : Bool := decide (s.size = 8) && (s.data.toList.take 5 == httpL) && digC (bt s 5) && decide (bt s 6 = 46) && digC (bt s 7)
def minE (s : ByteArray) : Int := if formS s = false then 3 else if bt s 5 ≠ 49 then 9 else 0
def minN (s : ByteArray) : Int := if minE s = 0 then (if bt s 7 = 48 then 0 else 1) else 0
theorem minE_cases (s : ByteArray) : (formS s = false ∧ minE s = 3 ∧ minN s = 0) ∨ (formS s = true ∧ bt s 5 ≠ 49 ∧ minE s = 9 ∧ minN s = 0) ∨ (formS s = true ∧ bt s 5 = 49 ∧ minE s = 0 ∧ minN s = if bt s 7 = 48 then 0 else 1) := by
  cases h : formS s
  · have : minE s = 3 := by unfold minE; rw [if_pos h]
    exact .inl ⟨rfl, this, by unfold minN; rw [this]; rfl⟩
  · by_cases h5 : bt s 5 = 49
    · have : minE s = 0 := by unfold minE; rw [if_neg (by rw [h]; decide), if_neg (by omega)]
      exact .inr (.inr ⟨rfl, h5, this, by unfold minN; rw [if_pos this]⟩)
    · have : minE s = 9 := by unfold minE; rw [if_neg (by rw [h]; decide), if_pos h5]
      exact .inr (.inl ⟨rfl, h5, this, by unfold minN; rw [this]; rfl⟩)

def blk1 (s : ByteArray) : Nat := upTo 32 s.data.toList
def cut1 (s : ByteArray) : ByteArray := s.extract 0 (blk1 s)
def cut2 (s : ByteArray) : ByteArray := s.extract (blk1 s + 1) s.size
def cnt32 (s : ByteArray) : Nat := s.data.toList.count 32
theorem blk1_le (s : ByteArray) : blk1 s ≤ s.size := by have := upTo_le 32 s.data.toList; rw [← ba_size'] at this; exact this
theorem ext_sizeS (s : ByteArray) (a b : Nat) : (s.extract a b).size ≤ s.size := by
  rw [ba_size', ba_size', Lib.extract_data]; simp; omega
theorem cut1_no {s : ByteArray} (h : blk1 s = s.size) : cut1 s = s ∧ cut2 s = ⟨#[]⟩ := by
  constructor
  · unfold cut1; rw [h]
    refine ba_ext ?_
    rw [Lib.extract_data, List.drop_zero]
    exact List.take_of_length_le (by rw [ba_size']; omega)
  · unfold cut2; rw [h]
    refine ba_ext ?_
    rw [Lib.extract_data, ba_size']; simp
theorem cut2_data (s : ByteArray) : (cut2 s).data.toList = s.data.toList.drop (blk1 s + 1) := by
  unfold cut2
  rw [Lib.extract_data, ba_size']
  exact List.take_of_length_le (by simp)

/-- P15.2. -/
def reqE (s : ByteArray) : Int := if cnt32 s ≠ 2 then 3 else if tokenB (cut1 s) = false then 6 else if visibleB (cut1 (cut2 s)) = false then 11 else minE (cut2 (cut2 s))
def reqM (s : ByteArray) : ByteArray := if reqE s = 0 then cut1 s else ⟨#[]⟩
def reqT (s : ByteArray) : ByteArray := if reqE s = 0 then cut1 (cut2 s) else ⟨#[]⟩
def reqN (s : ByteArray) : Int := if reqE s = 0 then minN (cut2 (cut2 s)) else 0
def ReqBad (s : ByteArray) (e : Int) : Prop := reqE s = e ∧ reqM s = ⟨#[]⟩ ∧ reqT s = ⟨#[]⟩ ∧ reqN s = 0
theorem req_bad {s : ByteArray} {e : Int} (h : reqE s = e) (he : e ≠ 0) : ReqBad s e := by
  subst h
  exact ⟨rfl, by unfold reqM; rw [if_neg he], by unfold reqT; rw [if_neg he], by unfold reqN; rw [if_neg he]⟩
theorem req_cases (s : ByteArray) :
    (cnt32 s ≠ 2 ∧ ReqBad s 3) ∨
    (cnt32 s = 2 ∧ tokenB (cut1 s) = false ∧ ReqBad s 6) ∨
    (cnt32 s = 2 ∧ tokenB (cut1 s) = true ∧ visibleB (cut1 (cut2 s)) = false ∧ ReqBad s 11) ∨
    (cnt32 s = 2 ∧ tokenB (cut1 s) = true ∧ visibleB (cut1 (cut2 s)) = true ∧ minE (cut2 (cut2 s)) ≠ 0 ∧ ReqBad s (minE (cut2 (cut2 s)))) ∨
    (cnt32 s = 2 ∧ tokenB (cut1 s) = true ∧ visibleB (cut1 (cut2 s)) = true ∧ minE (cut2 (cut2 s)) = 0 ∧ reqE s = 0 ∧ reqM s = cut1 s ∧ reqT s = cut1 (cut2 s) ∧ reqN s = minN (cut2 (cut2 s))) := by
  by_cases h1 : cnt32 s = 2
  · cases h2 : tokenB (cut1 s)
    · exact .inr (.inl ⟨h1, rfl, req_bad (by unfold reqE; rw [if_neg (by omega), if_pos h2]) (by decide)⟩)
    · cases h3 : visibleB (cut1 (cut2 s))
      · exact .inr (.inr (.inl ⟨h1, rfl, rfl, req_bad (by unfold reqE; rw [if_neg (by omega), if_neg (by rw [h2]; decide), if_pos h3]) (by decide)⟩))
      · have he : reqE s = minE (cut2 (cut2 s)) := by unfold reqE; rw [if_neg (by omega), if_neg (by rw [h2]; decide), if_neg (by rw [h3]; decide)]
        by_cases h4 : minE (cut2 (cut2 s)) = 0
        · have h5 := he.trans h4
          exact .inr (.inr (.inr (.inr ⟨h1, rfl, rfl, h4, h5, by unfold reqM; rw [if_pos h5], by unfold reqT; rw [if_pos h5], by unfold reqN; rw [if_pos h5]⟩)))
        · exact .inr (.inr (.inr (.inl ⟨h1, rfl, rfl, h4, req_bad he h4⟩)))
  · exact .inl ⟨h1, req_bad (by unfold reqE; rw [if_pos h1]) (by decide)⟩

/-- Where the blanks stand. -/
def posA : List UInt8 → Nat → List Nat
  | [], _ => []
  | c :: r, i => if c = 32 then i :: posA r (i + 1) else posA r (i + 1)
def posL (s : ByteArray) : List Nat := posA s.data.toList 0
theorem posA_app : ∀ (l m : List UInt8) (i : Nat), posA (l ++ m) i = posA l i ++ posA m (i + l.length)
  | [], m, i => by simp [posA]
  | c :: r, m, i => by
    have ih := posA_app r m (i + 1)
    simp only [List.cons_append, posA, List.length_cons]
    rw [ih, show i + 1 + r.length = i + (r.length + 1) from by omega]
    split <;> rfl
theorem posA_len : ∀ (l : List UInt8) (i : Nat), (posA l i).length = l.count 32
  | [], i => rfl
  | c :: r, i => by
    have ih := posA_len r (i + 1)
    simp only [posA, List.count_cons]
    by_cases h : c = 32
    · simp [h, ih]
    · rw [if_neg h, ih, if_neg (by simpa using h)]; rfl
theorem posA_up : ∀ (l : List UInt8) (i : Nat), posA l i = if upTo 32 l < l.length then (i + upTo 32 l) :: posA (l.drop (upTo 32 l + 1)) (i + upTo 32 l + 1) else []
  | [], i => rfl
  | c :: r, i => by
    have ih := posA_up r (i + 1)
    by_cases h : c = 32
    · subst h
      have e1 : upTo 32 ((32 : UInt8) :: r) = 0 := by simp [upTo]
      have e2 : posA ((32 : UInt8) :: r) i = i :: posA r (i + 1) := by simp [posA]
      rw [e1, e2, if_pos (by simp)]
      simp
    · have e1 : upTo 32 (c :: r) = upTo 32 r + 1 := by simp [upTo, h]
      have e2 : posA (c :: r) i = posA r (i + 1) := by simp [posA, h]
      rw [e1, e2, ih, List.length_cons, List.drop_succ_cons]
      by_cases h2 : upTo 32 r < r.length
      · rw [if_pos h2, if_pos (by omega)]
        rw [show i + 1 + upTo 32 r = i + (upTo 32 r + 1) from by omega]
      · rw [if_neg h2, if_neg (by omega)]
theorem posL_len (s : ByteArray) : (posL s).length = cnt32 s := posA_len _ _
theorem pos_up (s : ByteArray) (i : Nat) : posA s.data.toList i = if blk1 s < s.size then (i + blk1 s) :: posA (cut2 s).data.toList (i + blk1 s + 1) else [] := by
  rw [posA_up, cut2_data, ba_size']; rfl
theorem cut2_size {s : ByteArray} (h : blk1 s < s.size) : (cut2 s).size = s.size - (blk1 s + 1) := by
  rw [ba_size', cut2_data, List.length_drop, ← ba_size']
/-- With two blanks there are three parts. -/
theorem pos_two {s : ByteArray} (h : cnt32 s = 2) : ∃ a b : Nat, posL s = [a, b] ∧ a < b ∧ b < s.size ∧ blk1 s = a ∧ blk1 (cut2 s) + a + 1 = b ∧ blk1 s < s.size ∧ blk1 (cut2 s) < (cut2 s).size ∧
    s.extract 0 a = cut1 s ∧ s.extract (a + 1) b = cut1 (cut2 s) ∧ s.extract (b + 1) s.size = cut2 (cut2 s) := by
  rw [← posL_len] at h
  have g : posL s = posA s.data.toList 0 := rfl
  have e1 := pos_up s 0
  have e2 := pos_up (cut2 s) (0 + blk1 s + 1)
  rw [← g] at e1
  generalize posL s = Z at *
  generalize hX : posA (cut2 s).data.toList (0 + blk1 s + 1) = X at *
  generalize hY : posA (cut2 (cut2 s)).data.toList (0 + blk1 s + 1 + blk1 (cut2 s) + 1) = Y at *
  clear g hX hY
  by_cases h1 : blk1 s < s.size
  · rw [if_pos h1] at e1
    by_cases h2 : blk1 (cut2 s) < (cut2 s).size
    · rw [if_pos h2] at e2
      subst e1 e2
      have h3 : Y = [] := by
        cases Y with
        | nil => rfl
        | cons y ys => simp at h
      subst h3
      clear h
      have hz := cut2_size h1
      refine ⟨0 + blk1 s, 0 + blk1 s + 1 + blk1 (cut2 s), rfl, by omega, by omega, by omega, by omega, h1, h2, by unfold cut1; rw [Nat.zero_add], ?_, ?_⟩
      · have hl : (cut2 s).size = (cut2 s).data.toList.length := ba_size' _
        refine ba_ext ?_
        unfold cut1
        rw [Lib.extract_data, Lib.extract_data, cut2_data]
        simp only [Nat.zero_add, Nat.sub_zero, List.drop_zero]
        congr 1
        omega
      · refine ba_ext ?_
        have hl : s.size = s.data.toList.length := ba_size' _
        rw [cut2_data, cut2_data, Lib.extract_data, List.drop_drop, List.take_of_length_le (by rw [List.length_drop, ← hl]; exact Nat.le_refl _)]
        congr 1
        omega
    · rw [if_neg h2] at e2
      subst e1 e2
      simp at h
  · rw [if_neg h1] at e1
    subst e1
    simp at h
theorem pos_take {s : ByteArray} {k : Nat} (h : k < s.size) : posA (s.data.toList.take (k + 1)) 0 = posA (s.data.toList.take k) 0 ++ (if bt s k = 32 then [k] else []) := by
  have hk : k < s.data.toList.length := by rw [← ba_size']; exact h
  rw [List.take_succ_eq_append_getElem hk, posA_app, List.length_take, Nat.min_eq_left (by omega), Nat.zero_add]
  congr 1
  have e := bt_list s k h
  by_cases h2 : bt s k = 32
  · rw [if_pos h2]
    have : s.data.toList[k] = 32 := UInt8.toNat_inj.1 (by rw [e, h2]; rfl)
    rw [this]; rfl
  · rw [if_neg h2]
    have : s.data.toList[k] ≠ 32 := fun e2 => h2 (by rw [← e, e2]; rfl)
    have one : ∀ c : UInt8, c ≠ 32 → posA [c] k = [] := fun c hc => by simp [posA, hc]
    exact one _ this
theorem pos_all (s : ByteArray) : posA (s.data.toList.take s.size) 0 = posL s := by
  unfold posL
  rw [List.take_of_length_le (by rw [ba_size']; exact Nat.le_refl _)]
theorem pos_le (s : ByteArray) (k : Nat) : (posA (s.data.toList.take k) 0).length ≤ s.size := by
  rw [posA_len]
  refine Nat.le_trans List.count_le_length ?_
  rw [List.length_take, ← ba_size']; omega
end Go.Proofs.YtcbfhlnnfnpkdaaGreatDoor
