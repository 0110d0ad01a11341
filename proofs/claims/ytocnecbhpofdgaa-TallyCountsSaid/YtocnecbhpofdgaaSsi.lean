/- A stable sort, plain: blocks that are sorted, and twice as great ones. -/
import Derived.Test.YtocnecbhpofdgaaSsd
namespace Go.Proofs.Ytocnecbhpofdgaa
set_option linter.unusedVariables false
set_option linter.unusedSectionVars false
set_option linter.unusedSimpArgs false
variable {α : Type} {lt : α → α → Bool}

/-- R is L with its blocks of s sorted. -/
inductive Bt (lt : α → α → Bool) (s : Nat) : List α → List α → Prop
  | last (Y : List α) : Y.length ≤ s → Bt lt s Y (isrt lt Y)
  | more (Y Z R : List α) : Y.length = s → Bt lt s Z R → Bt lt s (Y ++ Z) (isrt lt Y ++ R)
theorem Bt.len {s : Nat} {L R : List α} (h : Bt lt s L R) : R.length = L.length := by
  induction h with
  | last Y _ => exact isrt_length lt Y
  | more Y Z R _ _ ih => rw [List.length_append, List.length_append, isrt_length, ih]
theorem Bt.small {s : Nat} {L R : List α} (h : Bt lt s L R) (hl : L.length ≤ s) : R = isrt lt L := by
  induction h with
  | last Y _ => rfl
  | more Y Z R hy hz ih =>
    rw [List.length_append] at hl
    have : Z = [] := List.length_eq_zero_iff.1 (by omega)
    subst this
    have hr := hz.len
    have : R = [] := List.length_eq_zero_iff.1 (by simpa using hr)
    subst this
    simp
/-- Its first block. -/
theorem Bt.head {s : Nat} {L R : List α} (h : Bt lt s L R) (hl : s ≤ L.length) : ∃ Y Z R', L = Y ++ Z ∧ Y.length = s ∧ R = isrt lt Y ++ R' ∧ Bt lt s Z R' := by
  cases h with
  | last Y hy => exact ⟨L, [], [], by simp, by omega, by simp, .last [] (by simp)⟩
  | more Y Z R hy hz => exact ⟨Y, Z, R, rfl, hy, rfl, hz⟩
/-- What may stand ahead. -/
def Bp (lt : α → α → Bool) (s : Nat) (X RX : List α) : Prop := ∀ Z R, Bt lt s Z R → Bt lt s (X ++ Z) (RX ++ R)
theorem bp_nil (s : Nat) : Bp lt s ([] : List α) [] := fun _ _ h => h
theorem Bp.snoc {s : Nat} {X RX Y : List α} (h : Bp lt s X RX) (hy : Y.length = s) : Bp lt s (X ++ Y) (RX ++ isrt lt Y) := fun Z R hz => by
  have := h _ _ (Bt.more Y Z R hy hz)
  simpa using this
theorem Swo.sorted {lt : α → α → Bool} (h : Swo lt) : Go.Sort.SWO lt where
  irrefl x := h.irr x
  trans _ _ _ h1 h2 := h.tr h1 h2
  ntrans x y z h1 h2 := by
    have := h.ntr z y x h2 h1
    exact this
end Go.Proofs.Ytocnecbhpofdgaa
