/- Tally (layer 49): how ranked sorts; Rows. -/
import Derived.Test.YtocnecbhpofdgaaTla
import Derived.Test.YtocnecbhpofdgaaSrj
namespace Go.Proofs.Ytocnecbhpofdgaa
open Go.RowKit Go.Shelf Go.Lib Go.Sort
set_option linter.unusedVariables false
set_option linter.unusedSimpArgs false

/-- The most ahead. -/
def rkC (f g : Srw) : Int := cmI g.2 f.2
theorem rkC_lt (f g : Srw) : ltOf rkC f g = decide (g.2 < f.2) := cmI_lt g.2 f.2
theorem rkC_swo : Swo (ltOf rkC) where
  asym a b h := by
    rw [rkC_lt, decide_eq_true_eq] at h
    rw [rkC_lt, decide_eq_false_iff_not]
    omega
  ntr a b c h1 h2 := by
    rw [rkC_lt, decide_eq_false_iff_not] at *
    omega
set_option maxHeartbeats 1000000 in
theorem rkC_cmp : CmpTSrw rkC := fun f g w => by
  obtain ⟨n, v⟩ := f
  obtain ⟨m, u⟩ := g
  have HG := Kp.mk (show (w.alloc (.cells #[.string n, .int .i64 v] 57)).alloc (.cells #[.string m, .int .i64 u] 57) = grow (w.drewN 0) #[.cells #[.string n, .int .i64 v] 57, .cells #[.string m, .int .i64 u] 57] from by
    rw [alloc_eq_grow, alloc_eq_grow, grow_grow]; rfl)
  show Calls Try.prog 61 #[.agg #[.string n, .int .i64 v], .agg #[.string m, .int .i64 u]] w fun e w' => e = .returned (.int .i64 (cmI u v)) ∧ ∃ q os, w' = grow (w.drewN q) os
  go_enter Try.func61, Try.ntmps61
  go_wp2_with fail
  refine (cmpi_any u v _).mono ?_
  rintro e w1 ⟨rfl, rfl⟩
  go_wp2_with fail
  go_ret
  exact ⟨rfl, 0, _, HG.out⟩
theorem trows_any (b : Nat) (w : World) : Calls Try.prog 59 #[.pointer (some ⟨b, 0, none⟩)] w fun e w' =>
    e = .returned (.func (.func 73) #[] #[.pointer (some ⟨w.heap.size, 0, none⟩)]) ∧ w' = w.alloc (.cells #[.pointer (some ⟨b, 0, none⟩)] 75) := by
  go_enter Try.func59, Try.ntmps59
  go_wp2_with fail
  go_ret
  exact ⟨rfl, rfl⟩
theorem trowi_any (b : Nat) (w : World) : Calls Try.prog 19 #[.pointer (some ⟨b, 0, none⟩)] w fun e w' =>
    e = .returned (.func (.func 40) #[] #[.pointer (some ⟨w.heap.size, 0, none⟩)]) ∧ w' = w.alloc (.cells #[.pointer (some ⟨b, 0, none⟩)] 42) := by
  go_enter Try.func19, Try.ntmps19
  go_wp2_with fail
  go_ret
  exact ⟨rfl, rfl⟩
end Go.Proofs.Ytocnecbhpofdgaa
