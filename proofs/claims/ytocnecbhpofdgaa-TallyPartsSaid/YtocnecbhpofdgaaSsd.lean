/- A stable sort, plain: binary searches, and how two sorted stretches are merged by parts. -/
import Derived.Test.YtocnecbhpofdgaaSsb
namespace Go.Proofs.Ytocnecbhpofdgaa
set_option linter.unusedVariables false
set_option linter.unusedSectionVars false
set_option linter.unusedSimpArgs false
variable {α : Type} {lt : α → α → Bool}

theorem Swo.irr (hw : Swo lt) (x : α) : lt x x = false := by
  cases h : lt x x
  · rfl
  · rw [hw.asym x x h] at h
    cases h
theorem Srt.le (hw : Swo lt) {B : List α} (h : Srt lt B) {t k : Nat} {y z : α} (hy : B[t]? = some y) (hz : B[k]? = some z) (hk : t ≤ k) : lt z y = false := by
  rcases Nat.lt_or_eq_of_le hk with hk | rfl
  · obtain ⟨h1, rfl⟩ := List.getElem?_eq_some_iff.1 hy
    obtain ⟨h2, rfl⟩ := List.getElem?_eq_some_iff.1 hz
    exact List.pairwise_iff_getElem.1 h t k h1 h2 hk
  · rw [hy] at hz
    cases hz
    exact hw.irr y
/-- The first k stand ahead of x. -/
def LoA (lt : α → α → Bool) (B : List α) (x : α) (k : Nat) : Prop := ∀ t y, B[t]? = some y → t < k → lt y x = true
def HiA (lt : α → α → Bool) (B : List α) (x : α) (k : Nat) : Prop := ∀ t y, B[t]? = some y → k ≤ t → lt y x = false
/-- x stands ahead of none of the first k. -/
def LoB (lt : α → α → Bool) (A : List α) (x : α) (k : Nat) : Prop := ∀ t y, A[t]? = some y → t < k → lt x y = false
def HiB (lt : α → α → Bool) (A : List α) (x : α) (k : Nat) : Prop := ∀ t y, A[t]? = some y → k ≤ t → lt x y = true
theorem loA_0 (B : List α) (x : α) : LoA lt B x 0 := fun _ _ _ h => absurd h (Nat.not_lt_zero _)
theorem hiA_end (B : List α) (x : α) : HiA lt B x B.length := fun t y h h2 => by
  rw [List.getElem?_eq_none h2] at h
  cases h
theorem loB_0 (B : List α) (x : α) : LoB lt B x 0 := fun _ _ _ h => absurd h (Nat.not_lt_zero _)
theorem hiB_end (B : List α) (x : α) : HiB lt B x B.length := fun t y h h2 => by
  rw [List.getElem?_eq_none h2] at h
  cases h
theorem LoA.step (hw : Swo lt) {B : List α} (hs : Srt lt B) {x z : α} {k : Nat} (hz : B[k]? = some z) (h : lt z x = true) : LoA lt B x (k + 1) := fun t y hy ht => hw.lelt (hs.le hw hy hz (by omega)) h
theorem HiA.step (hw : Swo lt) {B : List α} (hs : Srt lt B) {x z : α} {k : Nat} (hz : B[k]? = some z) (h : lt z x = false) : HiA lt B x k := fun t y hy ht => hw.ntr x z y h (hs.le hw hz hy ht)
theorem LoB.step (hw : Swo lt) {B : List α} (hs : Srt lt B) {x z : α} {k : Nat} (hz : B[k]? = some z) (h : lt x z = false) : LoB lt B x (k + 1) := fun t y hy ht => hw.ntr y z x (hs.le hw hy hz (by omega)) h
theorem HiB.step (hw : Swo lt) {B : List α} (hs : Srt lt B) {x z : α} {k : Nat} (hz : B[k]? = some z) (h : lt x z = true) : HiB lt B x k := fun t y hy ht => hw.ltle h (hs.le hw hz hy ht)
theorem mrg_headA (x : α) (B2 : List α) (h : ∀ y ∈ B2, lt y x = false) : mrg lt [x] B2 = x :: B2 := by
  cases B2 with
  | nil => rw [mrg_nil]
  | cons b B => rw [mrg, if_neg (by rw [h b (by simp)]; simp), nil_mrg]
theorem mrg_headB (y : α) (A2 : List α) (h : ∀ x ∈ A2, lt y x = true) : mrg lt A2 [y] = y :: A2 := by
  cases A2 with
  | nil => rw [nil_mrg]
  | cons a A => rw [mrg, if_pos (h a (by simp)), mrg_nil]
theorem mem_take_at {B : List α} {k : Nat} {y : α} (h : y ∈ B.take k) : ∃ t, t < k ∧ B[t]? = some y := by
  obtain ⟨t, ht, rfl⟩ := List.getElem_of_mem h
  rw [List.length_take] at ht
  refine ⟨t, by omega, ?_⟩
  rw [List.getElem_take, List.getElem?_eq_getElem (by omega)]
theorem mem_drop_at {B : List α} {k : Nat} {y : α} (h : y ∈ B.drop k) : ∃ t, k ≤ t ∧ B[t]? = some y := by
  obtain ⟨t, ht, rfl⟩ := List.getElem_of_mem h
  rw [List.length_drop] at ht
  refine ⟨k + t, by omega, ?_⟩
  rw [List.getElem_drop, List.getElem?_eq_getElem (by omega)]
/-- One element ahead. -/
theorem mrg_oneA {B : List α} {x : α} {k : Nat} (h1 : LoA lt B x k) (h2 : HiA lt B x k) : mrg lt [x] B = B.take k ++ x :: B.drop k := by
  have g1 : ∀ y ∈ B.take k, lt y x = true := fun y hy => by obtain ⟨t, ht, he⟩ := mem_take_at hy; exact h1 t y he ht
  have g2 : ∀ y ∈ B.drop k, lt y x = false := fun y hy => by obtain ⟨t, ht, he⟩ := mem_drop_at hy; exact h2 t y he ht
  have := mrg_split lt _ [] (B.take k) [x] (B.drop k) (Nat.le_refl _) (by simp) (fun a ha b hb => by rw [List.mem_singleton.1 ha]; exact g1 b hb)
  rw [List.take_append_drop] at this
  rw [List.nil_append, nil_mrg, mrg_headA x _ g2] at this
  exact this
/-- One element behind. -/
theorem mrg_oneB {A : List α} {y : α} {k : Nat} (h1 : LoB lt A y k) (h2 : HiB lt A y k) : mrg lt A [y] = A.take k ++ y :: A.drop k := by
  have g1 : ∀ x ∈ A.take k, lt y x = false := fun x hx => by obtain ⟨t, ht, he⟩ := mem_take_at hx; exact h1 t x he ht
  have g2 : ∀ x ∈ A.drop k, lt y x = true := fun x hx => by obtain ⟨t, ht, he⟩ := mem_drop_at hx; exact h2 t x he ht
  have := mrg_split lt _ (A.take k) [] (A.drop k) [y] (Nat.le_refl _) (fun a ha b hb => by rw [List.mem_singleton.1 hb]; exact g1 a ha) (by simp)
  rw [List.take_append_drop] at this
  rw [List.nil_append, mrg_nil, mrg_headB y _ g2] at this
  exact this
/-- By parts, where the borders are right. -/
theorem mrg_parts (hw : Swo lt) {A B : List α} (hA : Srt lt A) (hB : Srt lt B) (i j : Nat)
    (h1 : i = 0 ∨ B.length ≤ j ∨ ∃ x y, A[i - 1]? = some x ∧ B[j]? = some y ∧ lt y x = false)
    (h2 : A.length ≤ i ∨ j = 0 ∨ ∃ x y, A[i]? = some x ∧ B[j - 1]? = some y ∧ lt y x = true) :
    mrg lt A B = mrg lt (A.take i) (B.take j) ++ mrg lt (A.drop i) (B.drop j) := by
  have := mrg_split lt _ (A.take i) (B.take j) (A.drop i) (B.drop j) (Nat.le_refl _) ?_ ?_
  · rwa [List.take_append_drop, List.take_append_drop] at this
  · intro a ha b hb
    obtain ⟨t, ht, ea⟩ := mem_take_at ha
    obtain ⟨u, hu, eb⟩ := mem_drop_at hb
    rcases h1 with rfl | h | ⟨x, y, ex, ey, hl⟩
    · omega
    · rw [List.getElem?_eq_none (by omega)] at eb
      cases eb
    · have l1 := hA.le hw ea ex (by omega)
      have l2 := hB.le hw ey eb hu
      exact hw.ntr a y b (hw.ntr a x y l1 hl) l2
  · intro a ha b hb
    obtain ⟨t, ht, ea⟩ := mem_drop_at ha
    obtain ⟨u, hu, eb⟩ := mem_take_at hb
    rcases h2 with h | rfl | ⟨x, y, ex, ey, hl⟩
    · rw [List.getElem?_eq_none (by omega)] at ea
      cases ea
    · omega
    · have l1 := hA.le hw ex ea ht
      have l2 := hB.le hw eb ey (by omega)
      exact hw.ltle (hw.lelt l2 hl) l1
end Go.Proofs.Ytocnecbhpofdgaa
