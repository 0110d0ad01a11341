/- What is said to caches (layer 21): lists of directives that are the same. -/
import Derived.Test.YtahehpgnemanmaaCcc
import Derived.Deep.QuietTactic
import Derived.BigQuiet
namespace Go.Proofs.Ytahehpgnemanmaa
open Go.RowKit
set_option linter.unusedVariables false
set_option linter.unusedSimpArgs false

theorem below_drewD (w : World) (m : Nat) : Below w.heap.size w (w.drewN m) := below_drewNC w m
set_option maxRecDepth 100000 in
set_option maxHeartbeats 1000000 in
theorem same21_any (v1 v2 : Value) (ps : List Dir) (w : World) (h1 : RdD w v1 ps) (h2 : RdD w v2 ps) (hl : ps.length ≤ 1000000) :
    Calls Try.prog 32 #[v1, v2] w fun e w' => e = .returned (.bool true) ∧ Below w.heap.size w w' := by
  have H1 := Kp.mk h1
  have H2 := Kp.mk h2
  obtain ⟨a1, c1, rfl, m1, -, -⟩ := h1
  obtain ⟨a2, c2, rfl, m2, -, -⟩ := h2
  go_enter Try.func32, Try.ntmps32
  go_wp2_with fail
  go_loopw [5] (fun i wr => ∃ k : Nat, k ≤ ps.length ∧ i = .int .i64 k ∧ ∃ m, wr = w.drewN m) (fun i _ => ps.length - (intOf i).toNat)
  case atStart => exact ⟨0, by omega, rfl, 0, rfl⟩
  case round =>
    obtain ⟨k, hk, rfl, m, rfl⟩ := hrel
    by_cases hlt : k < ps.length
    · obtain ⟨b1, o1, rfl, k1, d1⟩ := rdd_cells H1.out (by omega)
      obtain ⟨b2, o2, rfl, k2, d2⟩ := rdd_cells H2.out (by omega)
      obtain ⟨e1, e2, e5⟩ := d1 k hlt
      obtain ⟨e3, e4, e6⟩ := d2 k hlt
      have q0 : (0 : Int) ≤ (k : Int) := by omega
      have q1 : (k : Int) < (ps.length : Int) := by omega
      clear d1 d2
      generalize ps[k].1 = x1 at *
      generalize ps[k].2.1 = x2 at *
      generalize ps[k].2.2 = x3 at *
      go_wp2_with fail
      go_quiet (fail)
      go_wp2_with fail
      go_roundw
      case rel => exact ⟨k + 1, by omega, by go_num, _, rfl⟩
      case measure => simp [intOf]; omega
    · go_wp2_with fail
      go_ret
      exact ⟨rfl, below_drewD _ _⟩
end Go.Proofs.Ytahehpgnemanmaa
