/- Lines that are taken out of octets, as plain functions (layer 16). -/
import Derived.Test.YtcbfhlnnfnpkdaaGreatDoorPb
import Derived.Lib.Strings
namespace Go.Proofs.YtcbfhlnnfnpkdaaGreatDoor
open Go.RowKit
set_option linter.unusedVariables false
set_option linter.unusedSimpArgs false

/-- What is kept between two octets. -/
structure LS where
  spent : Nat
  text : List UInt8
  cr : Bool
  whole : Bool
  err : Int
def ls0 : LS := ⟨0, [], false, false, 0⟩
/-- One octet more: what is kept then, and whether it was used. -/
def seeS (most : Nat) (st : LS) (c : UInt8) : LS × Bool :=
  if st.whole = true ∨ st.err ≠ 0 then (st, false)
  else if st.spent = most then ({ st with err := 4 }, false)
  else if st.cr ≠ (c == 10) then ({ st with err := 8 }, false)
  else if st.cr = true then ({ st with spent := st.spent + 1, cr := false, whole := true }, true)
  else if c = 13 then ({ st with spent := st.spent + 1, cr := true }, true)
  else ({ st with spent := st.spent + 1, text := st.text ++ [c] }, true)
/-- Octets one behind the other, as long as they are used. -/
def runS (most : Nat) : LS → List UInt8 → Nat × LS
  | st, [] => (0, st)
  | st, c :: l => if (seeS most st c).2 = true then ((runS most (seeS most st c).1 l).1 + 1, (runS most (seeS most st c).1 l).2) else (0, (seeS most st c).1)
abbrev Fo := List (List UInt8) × LS
/-- One octet more, each line told as soon as it is whole. -/
def stp (most : Nat) (F : Fo) (c : UInt8) : Fo :=
  if F.2.err ≠ 0 then F
  else if (seeS most F.2 c).1.whole = true then (F.1 ++ [(seeS most F.2 c).1.text], { (seeS most F.2 c).1 with text := [], whole := false })
  else (F.1, (seeS most F.2 c).1)
def foS (most : Nat) (F : Fo) (l : List UInt8) : Fo := l.foldl (stp most) F
def all16 (most : Nat) (l : List UInt8) : Fo := foS most ([], ls0) l
theorem foS_append (most : Nat) (F : Fo) (l m : List UInt8) : foS most F (l ++ m) = foS most (foS most F l) m := by simp [foS, List.foldl_append]
theorem stp_stuck {most : Nat} {F : Fo} (h : F.2.err ≠ 0) (c : UInt8) : stp most F c = F := by unfold stp; rw [if_pos h]
theorem foS_stuck {most : Nat} : ∀ (l : List UInt8) {F : Fo}, F.2.err ≠ 0 → foS most F l = F
  | [], _, _ => rfl
  | c :: l, F, h => by
    have : foS most F (c :: l) = foS most (stp most F c) l := rfl
    rw [this, stp_stuck h, foS_stuck l h]

/-- What one octet comes to. -/
theorem seeS_cases (most : Nat) (st : LS) (c : UInt8) (hw : st.whole = false) (he : st.err = 0) :
    ((seeS most st c).2 = false ∧ (seeS most st c).1.err ≠ 0 ∧ (seeS most st c).1.whole = false ∧ (seeS most st c).1.spent = st.spent) ∨
    ((seeS most st c).2 = true ∧ (seeS most st c).1.err = 0 ∧ (seeS most st c).1.spent = st.spent + 1) := by
  unfold seeS
  simp only [hw, he]
  simp
  repeat' split
  all_goals simp
theorem seeS_whole (most : Nat) (st : LS) (c : UInt8) (hw : st.whole = true) : seeS most st c = (st, false) := by
  unfold seeS; rw [if_pos (Or.inl hw)]
theorem run_whole (most : Nat) (st : LS) (hw : st.whole = true) : ∀ l, runS most st l = (0, st)
  | [] => rfl
  | c :: l => by unfold runS; rw [seeS_whole most st c hw]; simp
theorem run_le (most : Nat) : ∀ (l : List UInt8) (st : LS), (runS most st l).1 ≤ l.length
  | [], _ => by simp [runS]
  | c :: l, st => by
    unfold runS
    split
    · have := run_le most l (seeS most st c).1
      simp; omega
    · simp
structure RunOf (most : Nat) (st : LS) (l : List UInt8) (out : List (List UInt8)) (r : Nat × LS) : Prop where
  le : r.1 ≤ l.length
  spent : r.2.spent = st.spent + r.1
  way : (r.2.whole = true ∧ r.2.err = 0 ∧ 1 ≤ r.1 ∧ foS most (out, st) (l.take r.1) = (out ++ [r.2.text], { r.2 with text := [], whole := false })) ∨
    (r.2.whole = false ∧ r.2.err ≠ 0 ∧ foS most (out, st) l = (out, r.2)) ∨
    (r.2.whole = false ∧ r.2.err = 0 ∧ r.1 = l.length ∧ foS most (out, st) l = (out, r.2))
theorem run_of (most : Nat) (out : List (List UInt8)) : ∀ (l : List UInt8) (st : LS), st.whole = false → st.err = 0 → RunOf most st l out (runS most st l)
  | [], st, hw, he => ⟨by simp [runS], by simp [runS], .inr (.inr ⟨hw, he, rfl, rfl⟩)⟩
  | c :: l, st, hw, he => by
    rcases seeS_cases most st c hw he with ⟨h1, h2, h3, h4⟩ | ⟨h1, h2, h3⟩
    · have e : runS most st (c :: l) = (0, (seeS most st c).1) := by
        unfold runS; rw [h1]; simp
      rw [e]
      refine ⟨by simp, by rw [h4]; simp, .inr (.inl ⟨h3, h2, ?_⟩)⟩
      have e2 : foS most (out, st) (c :: l) = foS most (stp most (out, st) c) l := rfl
      have e3 : stp most (out, st) c = (out, (seeS most st c).1) := by
        unfold stp; rw [if_neg (by simp [he]), if_neg (by simp [h3])]
      rw [e2, e3, foS_stuck _ h2]
    · have e : runS most st (c :: l) = ((runS most (seeS most st c).1 l).1 + 1, (runS most (seeS most st c).1 l).2) := by
        conv => lhs; unfold runS
        rw [if_pos h1]
      rw [e]
      cases h4 : (seeS most st c).1.whole
      · have ih := run_of most out l (seeS most st c).1 h4 h2
        have e3 : stp most (out, st) c = (out, (seeS most st c).1) := by
          unfold stp; rw [if_neg (by simp [he]), if_neg (by simp [h4])]
        have e2 : ∀ m, foS most (out, st) (c :: m) = foS most (out, (seeS most st c).1) m := fun m => by
          have : foS most (out, st) (c :: m) = foS most (stp most (out, st) c) m := rfl
          rw [this, e3]
        refine ⟨by have := ih.le; simp; omega, by rw [ih.spent, h3]; simp; omega, ?_⟩
        rcases ih.way with ⟨a1, a2, a3, a4⟩ | ⟨a1, a2, a3⟩ | ⟨a1, a2, a3, a4⟩
        · exact .inl ⟨a1, a2, by simp, by rw [List.take_succ_cons, e2]; exact a4⟩
        · exact .inr (.inl ⟨a1, a2, by rw [e2]; exact a3⟩)
        · exact .inr (.inr ⟨a1, a2, by simp [a3], by rw [e2]; exact a4⟩)
      · rw [run_whole most _ h4]
        refine ⟨by simp, by simp [h3], .inl ⟨h4, h2, by simp, ?_⟩⟩
        have e3 : stp most (out, st) c = (out ++ [(seeS most st c).1.text], { (seeS most st c).1 with text := [], whole := false }) := by
          unfold stp; rw [if_neg (by simp [he]), if_pos h4]
        show foS most (out, st) [c] = _
        exact e3
/-- What always holds of what is kept behind octets. -/
structure FoOk (F : Fo) (n : Nat) : Prop where
  nowhole : F.2.whole = false
  spent : F.2.spent ≤ n
  lines : 2 * F.1.length + F.2.text.length + F.2.cr.toNat ≤ F.2.spent
  nocr : ∀ c ∈ F.2.text, c ≠ 13
  short : ∀ t ∈ F.1, t.length ≤ F.2.spent
theorem FoOk.stp {most : Nat} {F : Fo} {n : Nat} (h : FoOk F n) (c : UInt8) : FoOk (stp most F c) (n + 1) := by
  obtain ⟨out, st⟩ := F
  obtain ⟨h1, h2, h3, h4, h5⟩ := h
  unfold Go.Proofs.YtcbfhlnnfnpkdaaGreatDoor.stp
  by_cases he : st.err ≠ 0
  · rw [if_pos he]; exact ⟨h1, by omega, h3, h4, h5⟩
  · rw [if_neg he]
    simp only at *
    unfold seeS
    have hn : ¬ (st.whole = true ∨ st.err ≠ 0) := by simp [h1]; simpa using he
    rw [if_neg hn]
    split
    · simp [h1]; exact ⟨rfl, by simp; omega, h3, h4, h5⟩
    · split
      · simp [h1]; exact ⟨rfl, by simp; omega, h3, h4, h5⟩
      · split
        · rename_i hc
          simp [hc] at h3 ⊢
          refine ⟨rfl, by simp; omega, by simp; omega, by simp, ?_⟩
          intro t ht
          simp at ht ⊢
          rcases ht with ht | rfl
          · have := h5 t ht; omega
          · omega
        · split
          · rename_i hc _
            simp [h1]
            refine ⟨rfl, by simp; omega, by simp at h3 hc ⊢; rw [hc] at h3; simp at h3; omega, h4, fun t ht => by have := h5 t ht; simp; omega⟩
          · rename_i hc h13
            simp [h1]
            refine ⟨rfl, by simp; omega, by simp at h3 hc ⊢; omega, ?_, fun t ht => by have := h5 t ht; simp; omega⟩
            intro d hd
            simp at hd
            rcases hd with hd | rfl
            · exact h4 d hd
            · exact h13
theorem foOk (most : Nat) : ∀ (l : List UInt8) (F : Fo) (n : Nat), FoOk F n → FoOk (foS most F l) (n + l.length)
  | [], _, _, h => h
  | c :: l, F, n, h => by
    have : foS most F (c :: l) = foS most (stp most F c) l := rfl
    rw [this]
    have := foOk most l _ (n + 1) (h.stp (most := most) c)
    rw [List.length_cons]
    rwa [show n + (l.length + 1) = n + 1 + l.length by omega]
theorem all16_ok (most : Nat) (l : List UInt8) : FoOk (all16 most l) l.length := by
  have := foOk most l ([], ls0) 0 ⟨rfl, by simp [ls0], by simp [ls0], by simp [ls0], by simp⟩
  rw [Nat.zero_add] at this
  exact this
theorem all16_app (most : Nat) (l m : List UInt8) : all16 most (l ++ m) = foS most (all16 most l) m := foS_append _ _ _ _
theorem all16_stuck {most : Nat} {l : List UInt8} (h : (all16 most l).2.err ≠ 0) (m : List UInt8) : all16 most (l ++ m) = all16 most l := by rw [all16_app, foS_stuck _ h]
theorem stp_spent {most : Nat} {F : Fo} {c : UInt8} (hw : F.2.whole = false) (he : F.2.err = 0) (h : (stp most F c).2.err = 0) : (stp most F c).2.spent = F.2.spent + 1 := by
  rcases seeS_cases most F.2 c hw he with ⟨h1, h2, h3, h4⟩ | ⟨h1, h2, h3⟩
  · exfalso
    unfold stp at h
    rw [if_neg (by simp [he]), if_neg (by simp [h3])] at h
    exact h2 h
  · unfold stp
    rw [if_neg (by simp [he])]
    split <;> exact h3
theorem stp_whole {most : Nat} {F : Fo} {c : UInt8} (hw : F.2.whole = false) : (stp most F c).2.whole = false := by
  unfold stp
  split
  · exact hw
  · split
    · rfl
    · simp_all
theorem foS_spent (most : Nat) : ∀ (l : List UInt8) (F : Fo), F.2.whole = false → (foS most F l).2.err = 0 → (foS most F l).2.spent = F.2.spent + l.length
  | [], F, _, _ => rfl
  | c :: l, F, hw, h => by
    have e : foS most F (c :: l) = foS most (stp most F c) l := rfl
    rw [e] at h ⊢
    by_cases he : F.2.err = 0
    · by_cases he2 : (stp most F c).2.err = 0
      · rw [foS_spent most l _ (stp_whole hw) h, stp_spent hw he he2, List.length_cons]; omega
      · rw [foS_stuck _ he2] at h; exact absurd h he2
    · rw [stp_stuck he] at h; rw [foS_stuck _ he] at h; exact absurd h he
theorem all16_snoc (most : Nat) (l : List UInt8) (c : UInt8) : all16 most (l ++ [c]) = stp most (all16 most l) c := all16_app _ _ _
theorem all16_spent (most : Nat) (l : List UInt8) (h : (all16 most l).2.err = 0) : (all16 most l).2.spent = l.length := by
  have := foS_spent most l ([], ls0) rfl h
  rw [show (([], ls0) : Fo).2.spent = 0 from rfl, Nat.zero_add] at this
  exact this
/-- What the document's answer holds behind i octets of s. -/
structure RefAt (most : Nat) (s : ByteArray) (i fr : Nat) : Prop where
  le : i ≤ s.size
  from_le : fr ≤ i
  ok : (all16 most (s.data.toList.take i)).2.err = 0
  seg : (s.data.toList.take i).drop fr = (all16 most (s.data.toList.take i)).2.text ++ (if (all16 most (s.data.toList.take i)).2.cr = true then [13] else [])
/-- Did a line begin that is not whole? -/
def wthS (st : LS) : Bool := st.cr || !st.text.isEmpty
theorem refAt_start (most : Nat) (s : ByteArray) : RefAt most s 0 0 := ⟨by omega, by omega, rfl, rfl⟩
theorem take_at (s : ByteArray) (i : Nat) (h : i < s.size) : s.data.toList.take (i + 1) = s.data.toList.take i ++ [s[i]] := by
  rw [List.take_succ_eq_append_getElem (by simpa using h)]; rfl
theorem seg_get {l : List UInt8} {i fr k : Nat} (h : fr + k < i) : ((l.take i).drop fr)[k]? = l[fr + k]? := by
  rw [List.getElem?_drop, List.getElem?_take_of_lt h]
theorem seg_len {l : List UInt8} {i fr : Nat} (h : i ≤ l.length) : ((l.take i).drop fr).length = i - fr := by
  rw [List.length_drop, List.length_take, Nat.min_eq_left h]
theorem RefAt.within {most : Nat} {s : ByteArray} {i fr : Nat} (h : RefAt most s i fr) : wthS (all16 most (s.data.toList.take i)).2 = decide (fr < i) := by
  have h1 := congrArg List.length h.seg
  rw [seg_len (by have := h.le; simpa using this)] at h1
  have h2 := h.from_le
  unfold wthS
  cases hc : (all16 most (s.data.toList.take i)).2.cr
  · rw [hc] at h1
    simp at h1
    rw [Bool.false_or]
    cases ht : (all16 most (s.data.toList.take i)).2.text with
    | nil => rw [ht] at h1; simp at h1 ⊢; omega
    | cons a b => rw [ht] at h1; simp at h1 ⊢; omega
  · rw [hc] at h1
    simp at h1 ⊢
    omega
theorem RefAt.behind {most : Nat} {s : ByteArray} {i fr : Nat} (h : RefAt most s i fr) : (decide (fr < i) && (bt s (i - 1) == 13)) = (all16 most (s.data.toList.take i)).2.cr := by
  have hl : i ≤ s.data.toList.length := by have := h.le; simpa using this
  have h1 := congrArg List.length h.seg
  rw [seg_len hl] at h1
  have h2 := h.from_le
  have h3 := h.seg
  have h4 := (all16_ok most (s.data.toList.take i)).nocr
  generalize (all16 most (s.data.toList.take i)).2.text = tx at *
  cases hc : (all16 most (s.data.toList.take i)).2.cr
  · rw [hc] at h1 h3
    simp at h1
    by_cases hf : fr < i
    · rw [decide_eq_true hf, Bool.true_and, beq_eq_false_iff_ne]
      intro h13
      have g := seg_get (l := s.data.toList) (i := i) (fr := fr) (k := i - 1 - fr) (by omega)
      rw [h3, show fr + (i - 1 - fr) = i - 1 by omega, List.getElem?_eq_getElem (by omega : i - 1 < s.data.toList.length)] at g
      simp at g
      have hm := List.mem_of_getElem? g
      have := h4 _ hm
      apply this
      have e := bt_list s (i - 1) (by have := h.le; omega)
      apply UInt8.toNat_inj.1
      rw [h13] at e
      simpa using e
    · simp [hf]
  · rw [hc] at h1 h3
    simp at h1
    have hf : fr < i := by omega
    rw [decide_eq_true hf, Bool.true_and, beq_iff_eq]
    have g := seg_get (l := s.data.toList) (i := i) (fr := fr) (k := i - 1 - fr) (by omega)
    rw [h3, show fr + (i - 1 - fr) = i - 1 by omega, List.getElem?_eq_getElem (by omega : i - 1 < s.data.toList.length)] at g
    rw [if_pos rfl, List.getElem?_append_right (by omega), show i - 1 - fr - tx.length = 0 by omega] at g
    simp at g
    have e := bt_list s (i - 1) (by have := h.le; omega)
    rw [← e]
    simp [← g]
structure RefEnd (most : Nat) (s : ByteArray) (i fr : Nat) (er : Int) (out : List (List UInt8)) : Prop where
  out : (all16 most s.data.toList).1 = out
  within : wthS (all16 most s.data.toList).2 = decide (fr < i)
  spent : (all16 most s.data.toList).2.spent = i
  err : (all16 most s.data.toList).2.err = er
theorem all16_break {most : Nat} {s : ByteArray} {i : Nat} (hi : i < s.size) (h : (all16 most (s.data.toList.take (i + 1))).2.err ≠ 0) : all16 most s.data.toList = all16 most (s.data.toList.take (i + 1)) := by
  conv => lhs; rw [← List.take_append_drop (i + 1) s.data.toList]
  exact all16_stuck h _
theorem seeS_un {most : Nat} {st : LS} (c : UInt8) (hw : st.whole = false) (he : st.err = 0) : seeS most st c = if st.spent = most then ({ st with err := 4 }, false) else if st.cr ≠ (c == 10) then ({ st with err := 8 }, false) else if st.cr = true then ({ st with spent := st.spent + 1, cr := false, whole := true }, true) else if c = 13 then ({ st with spent := st.spent + 1, cr := true }, true) else ({ st with spent := st.spent + 1, text := st.text ++ [c] }, true) := by
  conv => lhs; unfold seeS
  rw [if_neg (by simp [hw, he])]
theorem stp_of {most : Nat} {F : Fo} {c : UInt8} {st : LS} {b : Bool} (he : F.2.err = 0) (h : seeS most F.2 c = (st, b)) : stp most F c = if st.whole = true then (F.1 ++ [st.text], { st with text := [], whole := false }) else (F.1, st) := by
  unfold stp
  rw [if_neg (by rw [he]; simp), h]
theorem c10 {s : ByteArray} {i : Nat} (h : i < s.size) : (s[i] == 10) = (bt s i == 10) := by
  rw [← bt_at s i h, Bool.eq_iff_iff, beq_iff_eq, beq_iff_eq, ← UInt8.toNat_inj]; rfl
theorem RefAt.stop {most : Nat} {s : ByteArray} {i fr : Nat} (h : RefAt most s i fr) (hi : i < s.size) (er : Int) (hx : (i = most ∧ er = 4) ∨ (i ≠ most ∧ (all16 most (s.data.toList.take i)).2.cr ≠ (bt s i == 10) ∧ er = 8)) :
    RefEnd most s i fr er (all16 most (s.data.toList.take i)).1 := by
  have hw := (all16_ok most (s.data.toList.take i)).nowhole
  have hs := all16_spent most _ h.ok
  rw [List.length_take, Nat.min_eq_left (by have := h.le; simpa using this)] at hs
  have hr : er ≠ 0 := by rcases hx with ⟨_, rfl⟩ | ⟨_, _, rfl⟩ <;> decide
  have key : all16 most (s.data.toList.take (i + 1)) = ((all16 most (s.data.toList.take i)).1, { (all16 most (s.data.toList.take i)).2 with err := er }) := by
    rw [take_at s i hi, all16_snoc]
    rcases hx with ⟨h1, rfl⟩ | ⟨h1, h2, rfl⟩
    · rw [stp_of h.ok (by rw [seeS_un _ hw h.ok, if_pos (by omega)])]; simp [hw]
    · rw [stp_of h.ok (by rw [seeS_un _ hw h.ok, if_neg (by omega), if_pos (by rw [c10 hi]; exact h2)])]; simp [hw]
  have hall := all16_break (most := most) hi (by rw [key]; exact hr)
  have hwi := h.within
  refine ⟨by rw [hall, key], by rw [hall, key, ← hwi]; rfl, by rw [hall, key]; exact hs, by rw [hall, key]⟩
theorem RefAt.line {most : Nat} {s : ByteArray} {i fr : Nat} (h : RefAt most s i fr) (hi : i < s.size) (hm : i ≠ most) (hc : (all16 most (s.data.toList.take i)).2.cr = true) (h10 : bt s i = 10) :
    RefAt most s (i + 1) (i + 1) ∧ fr < i ∧ (all16 most (s.data.toList.take (i + 1))).1 = (all16 most (s.data.toList.take i)).1 ++ [(s.extract fr (i - 1)).data.toList] := by
  have hw := (all16_ok most (s.data.toList.take i)).nowhole
  have hs := all16_spent most _ h.ok
  have hl : i ≤ s.data.toList.length := by have := h.le; simpa using this
  rw [List.length_take, Nat.min_eq_left hl] at hs
  have key : all16 most (s.data.toList.take (i + 1)) = ((all16 most (s.data.toList.take i)).1 ++ [(all16 most (s.data.toList.take i)).2.text], { (all16 most (s.data.toList.take i)).2 with spent := (all16 most (s.data.toList.take i)).2.spent + 1, cr := false, text := [], whole := false }) := by
    rw [take_at s i hi, all16_snoc]
    rw [stp_of h.ok (by rw [seeS_un _ hw h.ok, if_neg (by omega), if_neg (by rw [c10 hi, hc, h10]; simp), if_pos hc])]
    simp
  have hwi := h.within
  have hf : fr < i := by
    have : wthS (all16 most (s.data.toList.take i)).2 = true := by unfold wthS; rw [hc]; rfl
    rw [this] at hwi
    exact of_decide_eq_true hwi.symm
  refine ⟨⟨by omega, by omega, by rw [key]; exact h.ok, ?_⟩, hf, ?_⟩
  · rw [key]
    simp
  · rw [key]
    have h3 := h.seg
    rw [hc, if_pos rfl] at h3
    have h4 := congrArg List.dropLast h3
    rw [List.dropLast_concat] at h4
    rw [← h4]
    show _ ++ [_] = _ ++ [_]
    congr 2
    rw [Lib.extract_data, List.dropLast_eq_take, seg_len hl, List.drop_take, List.take_take]
    congr 1
    omega
theorem RefAt.more {most : Nat} {s : ByteArray} {i fr : Nat} (h : RefAt most s i fr) (hi : i < s.size) (hm : i ≠ most) (hc : (all16 most (s.data.toList.take i)).2.cr = false) (h10 : bt s i ≠ 10) :
    RefAt most s (i + 1) fr ∧ (all16 most (s.data.toList.take (i + 1))).1 = (all16 most (s.data.toList.take i)).1 := by
  have hw := (all16_ok most (s.data.toList.take i)).nowhole
  have hs := all16_spent most _ h.ok
  have hl : i ≤ s.data.toList.length := by have := h.le; simpa using this
  have hfr := h.from_le
  rw [List.length_take, Nat.min_eq_left hl] at hs
  have h3 := h.seg
  rw [hc] at h3
  simp at h3
  have hdr : (s.data.toList.take (i + 1)).drop fr = (s.data.toList.take i).drop fr ++ [s[i]] := by
    rw [take_at s i hi, List.drop_append_of_le_length (by rw [List.length_take]; omega)]
  have hn10 : (s[i] == 10) = false := by rw [c10 hi]; simpa using h10
  by_cases h13 : s[i] = 13
  · have key : all16 most (s.data.toList.take (i + 1)) = ((all16 most (s.data.toList.take i)).1, { (all16 most (s.data.toList.take i)).2 with spent := (all16 most (s.data.toList.take i)).2.spent + 1, cr := true }) := by
      rw [take_at s i hi, all16_snoc]
      rw [stp_of h.ok (by rw [seeS_un _ hw h.ok, if_neg (by omega), if_neg (by rw [hc, hn10]; simp), if_neg (by rw [hc]; simp), if_pos h13])]
      simp [hw]
    refine ⟨⟨by omega, by omega, by rw [key]; exact h.ok, ?_⟩, by rw [key]⟩
    rw [hdr, key, h13]
    simp
    rw [← h3]
  · have key : all16 most (s.data.toList.take (i + 1)) = ((all16 most (s.data.toList.take i)).1, { (all16 most (s.data.toList.take i)).2 with spent := (all16 most (s.data.toList.take i)).2.spent + 1, text := (all16 most (s.data.toList.take i)).2.text ++ [s[i]] }) := by
      rw [take_at s i hi, all16_snoc]
      rw [stp_of h.ok (by rw [seeS_un _ hw h.ok, if_neg (by omega), if_neg (by rw [hc, hn10]; simp), if_neg (by rw [hc]; simp), if_neg h13])]
      simp [hw]
    refine ⟨⟨by omega, by omega, by rw [key]; exact h.ok, ?_⟩, by rw [key]⟩
    rw [hdr, key]
    simp [hc]
    rw [← h3]
end Go.Proofs.YtcbfhlnnfnpkdaaGreatDoor
