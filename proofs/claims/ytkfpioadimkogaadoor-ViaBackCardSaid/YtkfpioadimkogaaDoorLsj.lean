/- Lists (layer 7): what is parted, joined and parted again is the same (plain functions alone). -/
import Derived.Test.YtkfpioadimkogaaDoorLsb
import Derived.Lib.Join
namespace Go.Proofs.YtkfpioadimkogaaDoor
open Go.RowKit
set_option linter.unusedVariables false
set_option linter.unusedSimpArgs false

abbrev S3 := Bool × Bool × Nat
def st3 (x : S3) (c : Nat) : S3 := (seeQ x.1 x.2.1 x.2.2 c, seeP x.1 x.2.1 x.2.2 c, seeD x.1 x.2.1 x.2.2 c)
def in3 (x : S3) : Bool := psIn x.1 x.2.2
def op3 : S3 := (false, false, 0)
/-- The state behind octets among which no comma parts. -/
def run3 : S3 → List UInt8 → Option S3
  | x, [] => some x
  | x, c :: r => if in3 (st3 x c.toNat) = true ∨ c.toNat ≠ 44 then run3 (st3 x c.toNat) r else none
theorem run3_app : ∀ (l m : List UInt8) (x : S3), run3 x (l ++ m) = (run3 x l).bind fun y => run3 y m
  | [], m, x => rfl
  | c :: l, m, x => by
    rw [List.cons_append, run3, run3]
    split
    · exact run3_app l m _
    · rfl
def inv3 (x : S3) : Prop := x.2.1 = true → in3 x = true
theorem st3_inv {x : S3} (c : Nat) (h : inv3 x) : inv3 (st3 x c) := by
  obtain ⟨q, p, d⟩ := x
  intro hp
  unfold st3 in3 psIn at *
  dsimp only at *
  unfold seeP at hp
  cases p
  · simp at hp
    unfold seeQ seeD
    simp [hp]
  · simp at hp
theorem run3_inv : ∀ (l : List UInt8) {x y : S3}, inv3 x → run3 x l = some y → inv3 y
  | [], x, y, h, e => by
    cases e
    exact h
  | c :: l, x, y, h, e => by
    rw [run3] at e
    split at e
    · exact run3_inv l (st3_inv _ h) e
    · cases e
theorem inv3_open {x : S3} (h : inv3 x) (hn : in3 x = false) : x = op3 := by
  obtain ⟨q, p, d⟩ := x
  unfold inv3 at h
  rw [hn] at h
  unfold in3 psIn at hn
  simp at hn h
  simp [op3, hn, h]
theorem st3_blank_open {b : Nat} (hb : blankN b = true) : st3 op3 b = op3 := by
  have : b = 32 ∨ b = 9 := by simpa [blankN] using hb
  rcases this with rfl | rfl <;> rfl
theorem st3_blank_back {x : S3} (h : inv3 x) {b : Nat} (hb : blankN b = true) (he : st3 x b = op3) : x = op3 := by
  have hb' : b = 32 ∨ b = 9 := by simpa [blankN] using hb
  refine inv3_open h ?_
  obtain ⟨q, p, d⟩ := x
  unfold st3 op3 at he
  rw [Prod.mk.injEq, Prod.mk.injEq] at he
  obtain ⟨h1, h2, h3⟩ := he
  unfold in3 psIn
  dsimp only at *
  rcases hb' with rfl | rfl
  all_goals
    cases p
    · simp [seeQ, seeD] at h1 h3
      simp [h1, h3]
    · simp [seeQ, seeD] at h1 h3
      simp [h1, h3]
def Good (l : List UInt8) : Prop := run3 op3 l = some op3
theorem good_front : ∀ {p l : List UInt8}, (∀ c ∈ p, blankC c = true) → Good (p ++ l) → Good l
  | [], _, _, h => h
  | c :: p, l, hp, h => by
    refine good_front (p := p) (fun d hd => hp d (List.mem_cons_of_mem _ hd)) ?_
    have hc := hp c (List.mem_cons_self ..)
    unfold Good at h
    rw [List.cons_append, run3, st3_blank_open hc] at h
    split at h
    · exact h
    · cases h
theorem good_one {l : List UInt8} {c : UInt8} (hc : blankC c = true) (h : Good (l ++ [c])) : Good l := by
  unfold Good at h ⊢
  rw [run3_app] at h
  cases hy : run3 op3 l with
  | none => rw [hy] at h; cases h
  | some y =>
    rw [hy] at h
    have hi := run3_inv l (x := op3) (y := y) (fun e => by cases e) hy
    simp only [Option.bind_some, run3] at h
    split at h
    · have h2 : st3 y c.toNat = op3 := by simpa using h
      rw [st3_blank_back hi hc h2]
    · cases h
theorem good_back : ∀ {q l : List UInt8}, (∀ c ∈ q, blankC c = true) → Good (l ++ q) → Good l
  | [], l, _, h => by rwa [List.append_nil] at h
  | c :: q, l, hq, h => by
    have h2 : Good ((l ++ [c]) ++ q) := by rw [List.append_assoc]; exact h
    exact good_one (hq c (List.mem_cons_self ..)) (good_back (fun d hd => hq d (List.mem_cons_of_mem _ hd)) h2)
theorem good_trim {l : List UInt8} (h : Good l) : Good (trimL l) := by
  obtain ⟨p, q, e, hp, hq, _⟩ := trimL_part l
  rw [e] at h
  rw [List.append_assoc] at h
  exact good_back hq (good_front hp h)
def seg (s : ByteArray) (a b : Nat) : List UInt8 := (s.extract a b).data.toList
theorem seg_eq (s : ByteArray) (a b : Nat) : seg s a b = (s.data.toList.drop a).take (b - a) := Lib.extract_data s a b
theorem len_data (s : ByteArray) : s.data.toList.length = s.size := by simp
theorem seg_snoc {s : ByteArray} {a i : Nat} (ha : a ≤ i) (hi : i < s.size) : ∃ c : UInt8, c.toNat = bt s i ∧ seg s a (i + 1) = seg s a i ++ [c] := by
  have hl : i < s.data.toList.length := by rw [len_data]; exact hi
  refine ⟨s.data.toList[i], bt_list s i hi, ?_⟩
  rw [seg_eq, seg_eq, show i + 1 - a = i - a + 1 by omega, List.take_succ_eq_append_getElem (by rw [List.length_drop]; omega)]
  congr 2
  rw [List.getElem_drop]
  congr 1
  omega
theorem run3_snoc {x y : S3} {l : List UInt8} (c : UInt8) (h : run3 x l = some y) (hc : in3 (st3 y c.toNat) = true ∨ c.toNat ≠ 44) : run3 x (l ++ [c]) = some (st3 y c.toNat) := by
  rw [run3_app, h]
  simp only [Option.bind_some, run3]
  rw [if_pos hc]
theorem ps_inv (s : ByteArray) : ∀ i, i ≤ s.size → run3 op3 (seg s (psAt s i).fr i) = some ((psAt s i).q, (psAt s i).p, (psAt s i).d) ∧ ∀ r ∈ (psAt s i).out, Good r.data.toList
  | 0, _ => ⟨by rw [seg_eq]; rfl, fun r h => by cases h⟩
  | i + 1, hi => by
    obtain ⟨h1, h2⟩ := ps_inv s i (by omega)
    have hfr := psAt_fr s i
    obtain ⟨x, hx⟩ : ∃ x, psAt s i = x := ⟨_, rfl⟩
    obtain ⟨q, p, d, fr, out⟩ := x
    rw [hx] at h1 h2 hfr
    dsimp only at h1 h2 hfr
    rw [ps_go hx]
    obtain ⟨c, hc, hseg⟩ := seg_snoc hfr (show i < s.size by omega)
    have hinv := run3_inv _ (x := op3) (fun e => by cases e) h1
    by_cases hw : psIn (seeQ q p d (bt s i)) (seeD q p d (bt s i)) = true ∨ bt s i ≠ 44
    · rw [if_pos hw]
      dsimp only
      refine ⟨?_, h2⟩
      rw [hseg, run3_snoc c h1 (by rw [hc]; exact hw), hc]
      rfl
    · rw [if_neg hw]
      dsimp only
      have hw1 : psIn (seeQ q p d (bt s i)) (seeD q p d (bt s i)) = false := by
        cases hh : psIn (seeQ q p d (bt s i)) (seeD q p d (bt s i))
        · rfl
        · exact absurd (.inl hh) hw
      have hw2 : bt s i = 44 := Decidable.byContradiction fun h => hw (.inr h)
      rw [hw2] at hw1 ⊢
      have hpf : p = false := by
        cases p
        · rfl
        · have hin : psIn q d = true := hinv rfl
          unfold seeQ seeD at hw1
          simp [hin] at hw1
      subst hpf
      have hqd : q = false ∧ d = 0 := by
        unfold seeQ seeD psIn at hw1
        simpa using hw1
      obtain ⟨rfl, rfl⟩ := hqd
      refine ⟨by rw [seg_eq]; simp [run3, op3, seeQ, seeP, seeD], fun r hr => ?_⟩
      rw [List.mem_append, List.mem_singleton] at hr
      rcases hr with hr | rfl
      · exact h2 r hr
      · exact h1
theorem ps_run (s : ByteArray) : ∀ (n i : Nat) {q p : Bool} {d fr : Nat} {out : List ByteArray} {y : S3}, i + n ≤ s.size → psAt s i = ⟨q, p, d, fr, out⟩ → run3 (q, p, d) ((s.data.toList.drop i).take n) = some y → psAt s (i + n) = ⟨y.1, y.2.1, y.2.2, fr, out⟩
  | 0, i, q, p, d, fr, out, y, _, h, e => by
    cases e
    exact h
  | n + 1, i, q, p, d, fr, out, y, hi, h, e => by
    have hl : i < s.data.toList.length := by rw [len_data]; omega
    rw [List.drop_eq_getElem_cons hl, List.take_succ_cons, run3] at e
    have hb := bt_list s i (by omega)
    rw [hb] at e
    split at e
    · rename_i hw
      have h2 := ps_go h
      rw [if_pos (show psIn (seeQ q p d (bt s i)) (seeD q p d (bt s i)) = true ∨ bt s i ≠ 44 from hw)] at h2
      have := ps_run s n (i + 1) (by omega) h2 e
      rw [show i + (n + 1) = i + 1 + n by omega]
      exact this
    · cases e
theorem bt_mid {s : ByteArray} {A B : List UInt8} {c : UInt8} (h : s.data.toList = A ++ c :: B) : A.length < s.size ∧ bt s A.length = c.toNat := by
  have hl : A.length < s.size := by rw [← len_data, h]; simp
  refine ⟨hl, ?_⟩
  rw [← bt_list s A.length hl]
  congr 1
  simp [h]
theorem drop_mid {s : ByteArray} {A x B : List UInt8} (h : s.data.toList = A ++ (x ++ B)) : (s.data.toList.drop A.length).take x.length = x := by
  rw [h, List.drop_left' rfl, List.take_left' rfl]
def tl2 (R : List (List UInt8)) : List UInt8 := Lib.joinTail [44, 32] R
theorem tl2_cons (x : List UInt8) (R : List (List UInt8)) : tl2 (x :: R) = 44 :: 32 :: (x ++ tl2 R) := by simp [tl2, Lib.joinTail]
theorem ps_tail : ∀ (R : List (List UInt8)) (A : List UInt8) (s : ByteArray) (fr : Nat) (out : List ByteArray), s.data.toList = A ++ tl2 R → psAt s A.length = ⟨false, false, 0, fr, out⟩ → (∀ r ∈ R, Good r) →
    ∃ fr' out', psAt s s.size = ⟨false, false, 0, fr', out'⟩ ∧ (out' ++ [s.extract fr' s.size]).map (·.data.toList) = out.map (·.data.toList) ++ [seg s fr A.length] ++ R.map (32 :: ·)
  | [], A, s, fr, out, h, hp, _ => by
    have hs : s.size = A.length := by rw [← len_data, h]; simp [tl2, Lib.joinTail]
    refine ⟨fr, out, by rw [hs]; exact hp, ?_⟩
    rw [hs, List.map_append, List.map_nil, List.append_nil]
    rfl
  | x :: R, A, s, fr, out, h, hp, hg => by
    rw [tl2_cons] at h
    obtain ⟨hl1, hb1⟩ := bt_mid h
    have h2 : s.data.toList = (A ++ [44]) ++ 32 :: (x ++ tl2 R) := by rw [h]; simp
    obtain ⟨hl2, hb2⟩ := bt_mid h2
    have h3 : s.data.toList = (A ++ [44, 32]) ++ (x ++ tl2 R) := by rw [h]; simp
    have hz : s.size = A.length + 2 + x.length + (tl2 R).length := by rw [← len_data, h]; simp; omega
    have p1 := ps_comma hp hb1
    have e2 : (A ++ [(44 : UInt8)]).length = A.length + 1 := by simp
    rw [e2] at hb2 hl2
    have p2 := ps_plain p1 (by rw [hb2]; decide) (by rw [hb2]; decide) (by rw [hb2]; decide)
    have e3 : (A ++ [(44 : UInt8), 32]).length = A.length + 2 := by simp
    have hr := drop_mid h3
    rw [e3] at hr
    have p3 := ps_run s x.length (A.length + 2) (y := op3) (by omega) p2 (by rw [hr]; exact hg x (List.mem_cons_self ..))
    have h4 : s.data.toList = (A ++ [44, 32] ++ x) ++ tl2 R := by rw [h]; simp
    have e4 : (A ++ [(44 : UInt8), 32] ++ x).length = A.length + 2 + x.length := by simp; omega
    obtain ⟨fr', out', q1, q2⟩ := ps_tail R (A ++ [44, 32] ++ x) s (A.length + 1) (out ++ [s.extract fr A.length]) h4 (by rw [e4]; exact p3) (fun r hr => hg r (List.mem_cons_of_mem _ hr))
    refine ⟨fr', out', q1, ?_⟩
    rw [q2, e4, List.map_append, List.map_cons]
    have hseg : seg s (A.length + 1) (A.length + 2 + x.length) = 32 :: x := by
      rw [seg_eq, h2, ← e2, List.drop_left' rfl, e2, show A.length + 2 + x.length - (A.length + 1) = (32 :: x).length by simp; omega]
      rw [show (32 : UInt8) :: (x ++ tl2 R) = (32 :: x) ++ tl2 R from rfl, List.take_left' rfl]
    rw [hseg]
    simp [seg]
/-- What was parted, joined again. -/
theorem ps_join (e : List UInt8) (R : List (List UInt8)) (s : ByteArray) (h : s.data.toList = e ++ tl2 R) (he : Good e) (hg : ∀ r ∈ R, Good r) :
    ∃ fr' out', psAt s s.size = ⟨false, false, 0, fr', out'⟩ ∧ (out' ++ [s.extract fr' s.size]).map (·.data.toList) = e :: R.map (32 :: ·) := by
  have hz : s.size = e.length + (tl2 R).length := by rw [← len_data, h]; simp
  have h0 : s.data.toList = ([] : List UInt8) ++ (e ++ tl2 R) := by rw [h]; rfl
  have hr := drop_mid h0
  have p0 : psAt s 0 = ⟨false, false, 0, 0, []⟩ := rfl
  have p1 := ps_run s e.length 0 (y := op3) (by omega) p0 (by rw [show (0 : Nat) = ([] : List UInt8).length from rfl, hr]; exact he)
  rw [Nat.zero_add] at p1
  obtain ⟨fr', out', q1, q2⟩ := ps_tail R e s 0 [] h p1 hg
  refine ⟨fr', out', q1, ?_⟩
  rw [q2]
  have : seg s 0 e.length = e := by rw [seg_eq, h, List.drop_zero, Nat.sub_zero, List.take_left' rfl]
  rw [this]
  simp
theorem trimL_blank (x : List UInt8) : trimL (32 :: x) = trimL x := by
  unfold trimL
  rw [List.dropWhile_cons, if_pos (by decide)]
end Go.Proofs.YtkfpioadimkogaaDoor
