/- A stable sort, as plain functions: insertion, merging, and why blocks that are merged are the whole sorted. -/
import Derived.Deep.Light
namespace Go.Proofs.Ytocnecbhpofdgaa
set_option linter.unusedVariables false
set_option linter.unusedSimpArgs false

/-- lt tells 'stands ahead of': what neither stands ahead of the other is alike. -/
structure Swo {α : Type} (lt : α → α → Bool) : Prop where
  asym : ∀ a b, lt a b = true → lt b a = false
  ntr : ∀ a b c, lt b a = false → lt c b = false → lt c a = false
theorem Swo.tr {α : Type} {lt : α → α → Bool} (h : Swo lt) {a b c : α} (h1 : lt a b = true) (h2 : lt b c = true) : lt a c = true := by
  cases h3 : lt a c
  · have := h.ntr c a b h3 (h.asym _ _ h1)
    rw [this] at h2
    cases h2
  · rfl
theorem Swo.ltle {α : Type} {lt : α → α → Bool} (h : Swo lt) {a b c : α} (h1 : lt a b = true) (h2 : lt c b = false) : lt a c = true := by
  cases h3 : lt a c
  · have := h.ntr b c a h2 h3
    rw [this] at h1
    cases h1
  · rfl
theorem Swo.lelt {α : Type} {lt : α → α → Bool} (h : Swo lt) {a b c : α} (h1 : lt b a = false) (h2 : lt b c = true) : lt a c = true := by
  cases h3 : lt a c
  · have := h.ntr c a b h3 h1
    rw [this] at h2
    cases h2
  · rfl
def inS {α : Type} (lt : α → α → Bool) (y : α) : List α → List α
  | [] => [y]
  | t :: T => if lt y t then y :: t :: T else t :: inS lt y T
def isrt {α : Type} (lt : α → α → Bool) (l : List α) : List α := l.foldl (fun acc y => inS lt y acc) []
def mrg {α : Type} (lt : α → α → Bool) : List α → List α → List α
  | [], B => B
  | a :: A, [] => a :: A
  | a :: A, b :: B => if lt b a then b :: mrg lt (a :: A) B else a :: mrg lt A (b :: B)
termination_by A B => A.length + B.length
/-- As it is sorted: what stands behind stands ahead of nothing. -/
abbrev Srt {α : Type} (lt : α → α → Bool) (l : List α) : Prop := l.Pairwise (fun a b => lt b a = false)
theorem mrg_nil {α : Type} (lt : α → α → Bool) (A : List α) : mrg lt A [] = A := by cases A <;> simp [mrg]
theorem nil_mrg {α : Type} (lt : α → α → Bool) (B : List α) : mrg lt [] B = B := by simp [mrg]
theorem mrg_split {α : Type} (lt : α → α → Bool) : ∀ (n : Nat) (A1 B1 A2 B2 : List α), A1.length + B1.length ≤ n → (∀ a ∈ A1, ∀ b ∈ B2, lt b a = false) → (∀ a ∈ A2, ∀ b ∈ B1, lt b a = true) →
    mrg lt (A1 ++ A2) (B1 ++ B2) = mrg lt A1 B1 ++ mrg lt A2 B2
  | _, [], [], A2, B2, _, _, _ => by simp [nil_mrg]
  | 0, _ :: _, _, _, _, h, _, _ => by simp at h
  | 0, [], _ :: _, _, _, h, _, _ => by simp at h
  | n + 1, a :: A1, b :: B1, A2, B2, h, h1, h2 => by
    simp only [List.length_cons] at h
    simp only [List.cons_append]
    rw [mrg, mrg]
    by_cases hl : lt b a = true
    · rw [if_pos hl, if_pos hl]
      have := mrg_split lt n (a :: A1) B1 A2 B2 (by simp; omega) h1 (fun x hx y hy => h2 x hx y (List.mem_cons_of_mem _ hy))
      simp only [List.cons_append] at this
      rw [this]
      rfl
    · rw [if_neg hl, if_neg hl]
      have := mrg_split lt n A1 (b :: B1) A2 B2 (by simp; omega) (fun x hx => h1 x (List.mem_cons_of_mem _ hx)) h2
      simp only [List.cons_append] at this
      rw [this]
      rfl
  | n + 1, a :: A1, [], A2, B2, h, h1, h2 => by
    simp only [List.length_cons] at h
    cases B2 with
    | nil => simp [mrg_nil]
    | cons b B2 =>
      have hl : lt b a = false := h1 a (by simp) b (by simp)
      have := mrg_split lt n A1 [] A2 (b :: B2) (by simp at h ⊢; omega) (fun x hx => h1 x (List.mem_cons_of_mem _ hx)) h2
      simp only [List.nil_append, mrg_nil] at this
      simp only [List.nil_append, List.cons_append, mrg_nil]
      rw [mrg, if_neg (by simp [hl]), this]
  | n + 1, [], b :: B1, A2, B2, h, h1, h2 => by
    simp only [List.length_cons] at h
    cases A2 with
    | nil => simp [nil_mrg]
    | cons a A2 =>
      have hl : lt b a = true := h2 a (by simp) b (by simp)
      have := mrg_split lt n [] B1 (a :: A2) B2 (by simp at h ⊢; omega) h1 (fun x hx y hy => h2 x hx y (List.mem_cons_of_mem _ hy))
      simp only [List.nil_append, nil_mrg] at this
      simp only [List.nil_append, List.cons_append, nil_mrg]
      rw [mrg, if_pos hl, this]
theorem mrg_one {α : Type} {lt : α → α → Bool} (hw : Swo lt) (y : α) : ∀ S : List α, mrg lt S [y] = inS lt y S
  | [] => by simp [mrg, inS]
  | s :: S => by
    rw [mrg, inS]
    by_cases hl : lt y s = true
    · rw [if_pos hl, if_pos hl, mrg_nil]
    · rw [if_neg hl, if_neg hl, mrg_one hw y S]
theorem inS_mrg {α : Type} {lt : α → α → Bool} (hw : Swo lt) (y : α) : ∀ (n : Nat) (S T : List α), S.length + T.length ≤ n → mrg lt S (inS lt y T) = inS lt y (mrg lt S T)
  | _, [], T, _ => by simp [nil_mrg]
  | _, s :: S, [], _ => by rw [inS, mrg_one hw, mrg_nil]
  | 0, _ :: _, _ :: _, h => by simp at h
  | n + 1, s :: S, t :: T, h => by
    simp only [List.length_cons] at h
    have ihT := inS_mrg hw y n (s :: S) T (by simp; omega)
    have ihS := inS_mrg hw y n S (t :: T) (by simp; omega)
    by_cases yt : lt y t = true
    · have e : inS lt y (t :: T) = y :: t :: T := by rw [inS, if_pos yt]
      rw [e] at ihS ⊢
      by_cases ys : lt y s = true
      · rw [mrg, if_pos ys]
        rw [mrg]
        by_cases ts : lt t s = true
        · rw [if_pos ts, inS, if_pos yt]
        · rw [if_neg ts, inS, if_pos ys]
      · have ts : ¬ lt t s = true := fun ts => ys (hw.tr yt ts)
        rw [mrg, if_neg ys, ihS]
        rw [mrg, if_neg ts, inS, if_neg ys]
    · have e : inS lt y (t :: T) = t :: inS lt y T := by rw [inS, if_neg yt]
      rw [e] at ihS ⊢
      by_cases ts : lt t s = true
      · rw [mrg, if_pos ts, ihT]
        rw [mrg, if_pos ts, inS, if_neg yt]
      · have ys : ¬ lt y s = true := by
          have := hw.ntr s t y (by simpa using ts) (by simpa using yt)
          simp [this]
        rw [mrg, if_neg ts, ihS]
        rw [mrg, if_neg ts, inS, if_neg ys]
theorem isrt_snoc {α : Type} (lt : α → α → Bool) (X : List α) (y : α) : isrt lt (X ++ [y]) = inS lt y (isrt lt X) := by simp [isrt, List.foldl_append]
theorem isrt_nil {α : Type} (lt : α → α → Bool) : isrt lt [] = [] := rfl
theorem isrt_one {α : Type} (lt : α → α → Bool) (x : α) : isrt lt [x] = [x] := rfl
theorem snoc_ind {α : Type} {P : List α → Prop} (h0 : P []) (h1 : ∀ X y, P X → P (X ++ [y])) (X : List α) : P X := by
  have : ∀ Y : List α, P Y.reverse := by
    intro Y
    induction Y with
    | nil => exact h0
    | cons y Y ih => rw [List.reverse_cons]; exact h1 _ _ ih
  have := this X.reverse
  rwa [List.reverse_reverse] at this
theorem mrg_isrt {α : Type} {lt : α → α → Bool} (hw : Swo lt) (X Y : List α) : mrg lt (isrt lt X) (isrt lt Y) = isrt lt (X ++ Y) := by
  refine snoc_ind (P := fun Y => mrg lt (isrt lt X) (isrt lt Y) = isrt lt (X ++ Y)) ?_ ?_ Y
  · simp [isrt_nil, mrg_nil]
  · intro Y y ih
    rw [isrt_snoc, inS_mrg hw y _ _ _ (Nat.le_refl _), ih, ← List.append_assoc, isrt_snoc]
theorem inS_perm {α : Type} (lt : α → α → Bool) (y : α) : ∀ T : List α, (inS lt y T).Perm (y :: T)
  | [] => List.Perm.refl _
  | t :: T => by
    rw [inS]
    split
    · exact List.Perm.refl _
    · exact ((inS_perm lt y T).cons t).trans (List.Perm.swap y t T)
theorem isrt_perm {α : Type} (lt : α → α → Bool) (X : List α) : (isrt lt X).Perm X := by
  refine snoc_ind (P := fun X => (isrt lt X).Perm X) (List.Perm.refl _) ?_ X
  intro X y ih
  rw [isrt_snoc]
  exact (inS_perm lt y _).trans ((ih.cons y).trans (List.perm_append_singleton y X).symm)
theorem isrt_length {α : Type} (lt : α → α → Bool) (X : List α) : (isrt lt X).length = X.length := (isrt_perm lt X).length_eq
theorem inS_srt {α : Type} {lt : α → α → Bool} (hw : Swo lt) (y : α) : ∀ T : List α, Srt lt T → Srt lt (inS lt y T)
  | [], _ => by simp [inS]
  | t :: T, h => by
    obtain ⟨h1, h2⟩ := List.pairwise_cons.1 h
    rw [inS]
    split
    · rename_i hl
      refine List.pairwise_cons.2 ⟨?_, h⟩
      intro x hx
      rcases List.mem_cons.1 hx with rfl | hx
      · exact hw.asym _ _ hl
      · exact hw.ntr _ _ _ (hw.asym _ _ hl) (h1 x hx)
    · rename_i hl
      refine List.pairwise_cons.2 ⟨?_, inS_srt hw y T h2⟩
      intro x hx
      rcases List.mem_cons.1 ((inS_perm lt y T).mem_iff.1 hx) with rfl | hx
      · simpa using hl
      · exact h1 x hx
theorem isrt_srt {α : Type} {lt : α → α → Bool} (hw : Swo lt) (X : List α) : Srt lt (isrt lt X) := by
  refine snoc_ind (P := fun X => Srt lt (isrt lt X)) (by simp [isrt_nil]) ?_ X
  intro X y ih
  rw [isrt_snoc]
  exact inS_srt hw y _ ih
/-- Where what is put in stands. -/
theorem inS_at {α : Type} (lt : α → α → Bool) (y : α) (S2 : List α) (h2 : ∀ s, S2.head? = some s → lt y s = true) : ∀ S1 : List α, (∀ s ∈ S1, lt y s = false) → inS lt y (S1 ++ S2) = S1 ++ y :: S2
  | [], _ => by
    cases S2 with
    | nil => rfl
    | cons s S2 => simp [inS, h2 s rfl]
  | s :: S1, h => by
    have := h s (by simp)
    simp only [List.cons_append, inS, this]
    rw [if_neg (by simp), inS_at lt y S2 h2 S1 (fun x hx => h x (List.mem_cons_of_mem _ hx))]
/-- What one order sorts both ways is one list. -/
theorem srt_uniq {α : Type} {lt : α → α → Bool} : ∀ {A B : List α}, A.Perm B → Srt lt A → Srt lt B → (∀ a ∈ A, ∀ b ∈ A, lt a b = false → lt b a = false → a = b) → A = B
  | [], B, hp, _, _, _ => by rw [List.nil_perm.1 hp]
  | a :: A, [], hp, _, _, _ => by have := hp.length_eq; simp at this
  | a :: A, b :: B, hp, hA, hB, hu => by
    obtain ⟨a1, a2⟩ := List.pairwise_cons.1 hA
    obtain ⟨b1, b2⟩ := List.pairwise_cons.1 hB
    have e : a = b := by
      have hb : b ∈ a :: A := hp.mem_iff.2 (by simp)
      have ha : a ∈ b :: B := hp.mem_iff.1 (by simp)
      rcases List.mem_cons.1 hb with h | h
      · exact h.symm
      · rcases List.mem_cons.1 ha with h' | h'
        · exact h'
        · exact hu a (by simp) b hb (b1 a h') (a1 b h)
    subst e
    rw [srt_uniq (List.Perm.cons_inv hp) a2 b2 (fun x hx y hy => hu x (List.mem_cons_of_mem _ hx) y (List.mem_cons_of_mem _ hy))]
/-- Within a sorted list: the first ones stand ahead of none. -/
theorem Srt.app {α : Type} {lt : α → α → Bool} {A B : List α} (h : Srt lt (A ++ B)) : Srt lt A ∧ Srt lt B ∧ ∀ a ∈ A, ∀ b ∈ B, lt b a = false := by
  obtain ⟨h1, h2, h3⟩ := List.pairwise_append.1 h
  exact ⟨h1, h2, h3⟩
end Go.Proofs.Ytocnecbhpofdgaa
