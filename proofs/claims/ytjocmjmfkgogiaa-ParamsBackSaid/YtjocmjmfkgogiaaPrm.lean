/- Words with parameters: the document's example; the law ParamsParse (layer 8). -/
import Derived.Test.YtjocmjmfkgogiaaPrl
namespace Go.Proofs.Ytjocmjmfkgogiaa
open Go.RowKit
set_option linter.unusedVariables false
set_option linter.unusedSimpArgs false

theorem parsL_len : ∀ (f : Nat) (x : ByteArray) (l : List Par), parsL f x = some l → l.length ≤ x.size
  | 0, _, _, h => by simp [parsL] at h
  | f + 1, x, l, h => by
    unfold parsL at h
    split at h
    · cases h; simp
    · split at h
      · rename_i h1
        have hpe := parEnd_le h1
        cases hq : parsL f (fromB x (parEnd x)) with
        | none => rw [hq] at h; simp at h
        | some m =>
          rw [hq] at h
          simp at h
          have := parsL_len f _ m hq
          rw [fromB_size] at this
          rw [← h, List.length_cons]; omega
      · cases h
theorem prmAll_len (s : ByteArray) : (prmAll s).2.2.length ≤ s.size := by
  unfold prmAll
  split
  · simp
  · split
    · simp
    · cases h : parsL (s.size + 1) (fromB s (preN tcharB s)) with
      | none => simp
      | some l =>
        have := parsL_len _ _ _ h
        rw [fromB_size] at this
        simp; omega
def ex8s : ByteArray := ⟨#[71, 90, 73, 80, 32, 59, 32, 81, 61, 34, 97, 32, 98, 34, 59, 120]⟩
def ex8l : List Par := [(⟨#[113]⟩, ⟨#[97, 32, 98]⟩), (⟨#[120]⟩, ⟨#[]⟩)]
def ex8p : List Par := [(⟨#[98]⟩, ⟨#[99, 32, 100]⟩)]
theorem ex8a : prmAll ex8s = (0, ⟨#[103, 122, 105, 112]⟩, ex8l) := by decide +kernel
theorem ex8b : prtS ⟨#[97]⟩ ex8p = ⟨#[97, 59, 98, 61, 34, 99, 32, 100, 34]⟩ ∧ prtOk ⟨#[97]⟩ ex8p = true := by decide +kernel
theorem rd_one (w : World) (t : TypeId) : RdP (w.alloc (.cells #[.string ⟨#[98]⟩, .string ⟨#[99, 32, 100]⟩] t)) (.slice (some ⟨w.heap.size, 0, none⟩) 1 1) ex8p := by
  refine .inr ⟨w.heap.size, 1, rfl, by decide, by simp, fun j hj => ?_⟩
  obtain rfl : j = 0 := by have : j < 1 := hj; omega
  rw [World.cell?_alloc_at _ _ _ _ rfl, World.cell?_alloc_at _ _ _ _ rfl]
  exact ⟨rfl, rfl⟩
theorem rd_two (w : World) (t : TypeId) : RdP (w.alloc (.cells #[.string ⟨#[113]⟩, .string ⟨#[97, 32, 98]⟩, .string ⟨#[120]⟩, .string ⟨#[]⟩] t)) (.slice (some ⟨w.heap.size, 0, none⟩) 2 2) ex8l := by
  refine .inr ⟨w.heap.size, 2, rfl, by decide, by simp, fun j hj => ?_⟩
  have hj2 : j < 2 := hj
  have : j = 0 ∨ j = 1 := by omega
  rcases this with rfl | rfl
  all_goals
    rw [World.cell?_alloc_at _ _ _ _ rfl, World.cell?_alloc_at _ _ _ _ rfl]
    exact ⟨rfl, rfl⟩

set_option maxRecDepth 100000 in
set_option maxHeartbeats 4000000 in
theorem lives8_any (w : World) :
    Calls Try.prog 27 #[] w fun e w' => e = .returned (.bool true) ∧ Below w.heap.size w w' := by
  have EA := Hd.mk ex8a
  have EB := Hd.mk ex8b
  go_enter Try.func27, Try.ntmps27
  go_wp2_with fail
  refine (parse_any ex8s _ (by decide)).mono ?_
  rintro e w1 ⟨v1, rfl, ho1, hb1⟩
  rw [EA.out] at ho1 ⊢
  have HO1 := Hd.mk (RdP.of_own ho1)
  have HB1 := Hd.mk hb1
  have hz1 := hb1.size
  clear ho1 hb1
  go_wp2_with fail
  refine (print_any ⟨#[97]⟩ _ ex8p _ (rd_one _ _) (by decide) (by decide) (by decide)).mono ?_
  rintro e w2 ⟨rfl, hb2⟩
  rw [EB.out.1, EB.out.2]
  have HB2 := Hd.mk ((HB1.out.alloc hz1 _).trans (hb2.mono (by simp; omega)))
  have HO2 := Hd.mk ((HO1.out.below ((Below.refl _ _).alloc (Nat.le_refl _) _)).below hb2)
  have hz2 := HB2.out.size
  clear hb2
  go_wp2_with fail
  refine (same_eq _ _ ex8l _ (HO2.out.below ((Below.refl _ _).alloc (Nat.le_refl _) _)) (rd_two _ _) (by decide)).mono ?_
  rintro e w3 ⟨rfl, hb3⟩
  go_wp2_with fail
  go_ret
  exact ⟨ret_bool (by decide +kernel), (HB2.out.alloc hz2 _).trans (hb3.mono (by simp; omega))⟩

end Go.Proofs.Ytjocmjmfkgogiaa
