/- cmp.Compare of two texts; how canon.Same sorts (layer 50). -/
import Derived.Test.YtocnecbhpofdgaaGb
import Derived.Test.YtocnecbhpofdgaaProg
import Derived.Test.YtocnecbhpofdgaaSsh
import Derived.Laws.Cover1
import Derived.Sort.Walk0
namespace Go.Proofs.Ytocnecbhpofdgaa
open Go.RowKit Go.Shelf Go.Lib Go.Sort
set_option linter.unusedVariables false
set_option linter.unusedSimpArgs false

def bsL (x y : ByteArray) : Bool := Op.bytesLess x.toList y.toList
theorem bsL_iff (x y : ByteArray) : bsL x y = true ↔ x.toList < y.toList := by
  unfold bsL
  rw [bytesLess_eq, decide_eq_true_eq]
theorem bsL_no (x y : ByteArray) : bsL x y = false ↔ y.toList ≤ x.toList := by
  unfold bsL
  rw [bytesLess_eq, decide_eq_false_iff_not, List.not_lt]
theorem bsL_asym {x y : ByteArray} (h : bsL x y = true) : bsL y x = false := (bsL_no y x).2 (List.le_of_lt ((bsL_iff x y).1 h))
theorem bsL_ntr {x y z : ByteArray} (h1 : bsL y x = false) (h2 : bsL z y = false) : bsL z x = false := (bsL_no z x).2 (List.le_trans ((bsL_no y x).1 h1) ((bsL_no z y).1 h2))
theorem bsL_eq {x y : ByteArray} (h1 : bsL x y = false) (h2 : bsL y x = false) : x = y := by
  have := List.le_antisymm ((bsL_no y x).1 h2) ((bsL_no x y).1 h1)
  cases x with
  | mk a => cases y with
    | mk b =>
      rw [ByteArray.toList_eq, ByteArray.toList_eq] at this
      simp at this
      rw [this]
def cmB (x y : ByteArray) : Int := if bsL x y = true then -1 else if bsL y x = true then 1 else 0
theorem cmB_lt (x y : ByteArray) : decide (cmB x y < 0) = bsL x y := by
  unfold cmB
  cases h : bsL x y
  · rw [if_neg (by simp)]
    split <;> rfl
  · rfl
theorem gtr_fact (x y : ByteArray) : (!(Op.bytesLess x.toList y.toList || x.toList == y.toList)) = (!bsL x y && bsL y x) := by
  unfold bsL
  cases h : Op.bytesLess x.toList y.toList
  · simp only [Bool.false_or, Bool.not_false, Bool.true_and]
    cases h2 : Op.bytesLess y.toList x.toList
    · have : x = y := bsL_eq h h2
      subst this
      simp
    · have : ¬ x.toList = y.toList := fun e => by
        rw [e] at h h2
        rw [h] at h2
        cases h2
      simp [this]
  · rfl
set_option maxHeartbeats 1000000 in
theorem isnan_any (x : ByteArray) (w : World) : Calls Try.prog 71 #[.string x] w fun e w' => e = .returned (.bool false) ∧ w = w' := by
  go_enter Try.func71, Try.ntmps71
  go_wp2_with fail
  go_ret
  exact ⟨by simp, rfl⟩
set_option maxHeartbeats 1000000 in
theorem cmps_any (x y : ByteArray) (w : World) : Calls Try.prog 55 #[.string x, .string y] w fun e w' => e = .returned (.int .i64 (cmB x y)) ∧ w = w' := by
  have hg := gtr_fact x y
  have HL := Kp.mk (show Op.bytesLess x.toList y.toList = bsL x y from rfl)
  have HC := Kp.mk (show cmB x y = if bsL x y = true then -1 else if bsL y x = true then 1 else 0 from rfl)
  have hl := HL.out
  generalize cmB x y = c at *
  generalize bsL x y = b1 at *
  generalize bsL y x = b2 at *
  cases b1
  · have hg2 : (x.toList == y.toList) = !b2 := by
      rw [hl] at hg
      simp only [Bool.false_or, Bool.not_false, Bool.true_and] at hg
      rw [← hg]
      simp
    clear hg
    cases b2
    all_goals
      go_enter Try.func55, Try.ntmps55
      go_wp2_with fail
      refine (isnan_any x _).mono ?_
      rintro e w1 ⟨rfl, rfl⟩
      go_wp2_with fail
      refine (isnan_any y _).mono ?_
      rintro e w1 ⟨rfl, rfl⟩
      go_wp2_with fail
      go_ret
      exact ⟨by rw [HC.out]; rfl, rfl⟩
  · clear hg
    go_enter Try.func55, Try.ntmps55
    go_wp2_with fail
    refine (isnan_any x _).mono ?_
    rintro e w1 ⟨rfl, rfl⟩
    go_wp2_with fail
    refine (isnan_any y _).mono ?_
    rintro e w1 ⟨rfl, rfl⟩
    go_wp2_with fail
    go_ret
    exact ⟨by rw [HC.out]; rfl, rfl⟩
/-- How canon.Same compares two fields. -/
def cmF (f g : Sfd) : Int := cmB f.1 g.1
theorem cmF_lt (f g : Sfd) : ltOf cmF f g = bsL f.1 g.1 := cmB_lt f.1 g.1
theorem swoF : Swo (ltOf cmF) where
  asym a b h := by rw [cmF_lt] at *; exact bsL_asym h
  ntr a b c h1 h2 := by rw [cmF_lt] at *; exact bsL_ntr h1 h2
set_option maxHeartbeats 1000000 in
theorem cmpT50 : CmpTSfd cmF := fun f g w => by
  obtain ⟨n, v⟩ := f
  obtain ⟨m, u⟩ := g
  have HG := Kp.mk (show (w.alloc (.cells #[.string n, .string v] 64)).alloc (.cells #[.string m, .string u] 64) = grow (w.drewN 0) #[.cells #[.string n, .string v] 64, .cells #[.string m, .string u] 64] from by
    rw [alloc_eq_grow, alloc_eq_grow, grow_grow]; rfl)
  show Calls Try.prog 54 #[.agg #[.string n, .string v], .agg #[.string m, .string u]] w fun e w' => e = .returned (.int .i64 (cmB n m)) ∧ ∃ q os, w' = grow (w.drewN q) os
  go_enter Try.func54, Try.ntmps54
  go_wp2_with fail
  refine (cmps_any n m _).mono ?_
  rintro e w1 ⟨rfl, rfl⟩
  go_wp2_with fail
  go_ret
  exact ⟨rfl, 0, _, HG.out⟩
end Go.Proofs.Ytocnecbhpofdgaa
