/- First lines (layer 15): the law StartStatuses. -/
import Derived.Test.YtpgeheblmpjndaaStq
import Derived.Test.YtpgeheblmpjndaaSts
import Derived.Deep.DeepCutAuto
namespace Go.Proofs.Ytpgeheblmpjndaa
open Go.RowKit
set_option linter.unusedVariables false
set_option linter.unusedSimpArgs false

set_option maxRecDepth 100000 in
set_option maxHeartbeats 4000000 in
theorem ssta_walk (s : ByteArray) (st : Int) (w : World) (hs : s.size ≤ maxLen) : Calls Try.prog 5 #[.string s, .int .i64 st] w fun e w' => e = .returned (.bool true) ∧ Below w.heap.size w w' := by
  unfold maxLen at hs
  go_enter Try.func5, Try.ntmps5
  go_upto_region 1 with fail
  go_cut [0] (LMid w)
  case first =>
    have E1 := Kp.mk (ext_toS s 1000)
    by_cases h1 : s.size ≤ 1000
    all_goals
      go_wp2_with fail
      go_meet
      exact ⟨_, rfl, by first | assumption | exact E1.out, rfl⟩
  case rest =>
    obtain ⟨x, rfl, hx, rfl⟩ := hcut
    have hx2 : x.size ≤ 1000000 := by omega
    have hx3 : x.size ≤ 100000000 := by omega
    clear hs
    go_wp2_with fail
    refine (status_any x _ hx2).mono ?_
    rintro e w1 ⟨rfl, hb1⟩
    have K1 := Kp.mk (heap_alloc_new w1 (.cells #[.string ⟨#[]⟩, .string ⟨#[]⟩, .int .i64 (staN x), .int .i64 (staS x), .string (staR x), .slice none 0 0] 24))
    have HB1 := Kp.mk (hb1.alloc hb1.size (.cells #[.string ⟨#[]⟩, .string ⟨#[]⟩, .int .i64 (staN x), .int .i64 (staS x), .string (staR x), .slice none 0 0] 24))
    clear hb1
    go_wp2_with fail
    refine (rstatus_any x _ hx2).mono ?_
    rintro e w2 ⟨rfl, hb2⟩
    have K2 := Kp.mk ((hb2.block w1.heap.size (by simp)).trans K1.out)
    have HB2 := Kp.mk (HB1.out.trans (hb2.mono HB1.out.size))
    have K3 := Kp.mk (blk_alloc (o2 := .cells #[.string ⟨#[]⟩, .string ⟨#[]⟩, .int .i64 (staN x), .int .i64 (staS x), .string (staR x), .slice none 0 0] 24) K2.out)
    have K4 := Kp.mk (heap_alloc_new w2 (.cells #[.string ⟨#[]⟩, .string ⟨#[]⟩, .int .i64 (staN x), .int .i64 (staS x), .string (staR x), .slice none 0 0] 24))
    have HB3 := Kp.mk (HB2.out.alloc HB2.out.size (.cells #[.string ⟨#[]⟩, .string ⟨#[]⟩, .int .i64 (staN x), .int .i64 (staS x), .string (staR x), .slice none 0 0] 24))
    have g0 := blk_cell (i := 0) K3.out rfl
    have g1 := blk_cell (i := 1) K3.out rfl
    have g2 := blk_cell (i := 2) K3.out rfl
    have g3 := blk_cell (i := 3) K3.out rfl
    have g4 := blk_cell (i := 4) K3.out rfl
    have g5 := blk_cell (i := 5) K3.out rfl
    clear hb2
    go_wp2_with fail
    refine (same15_any _ _ _ _ _ _ _ _ _ _ _ _).mono ?_
    rintro e w3 ⟨rfl, hb3⟩
    have K5 := Kp.mk ((hb3.block w1.heap.size (blk_lt K3.out)).trans K3.out)
    have HB4 := Kp.mk (HB3.out.trans (hb3.mono HB3.out.size))
    clear g0 g1 g2 g3 g4 g5 hb3
    have g5 := blk_cell (i := 5) K5.out rfl
    go_wp2_with fail
    refine (reason_any st _).mono ?_
    rintro e w5 ⟨rfl, rfl⟩
    go_wp2_with fail
    refine (rreason_any st _).mono ?_
    rintro e w6 ⟨rfl, hb6⟩
    have HB4b := Kp.mk (HB4.out.trans (hb6.mono HB4.out.size))
    clear HB4 hb6 g5
    have HB4 := HB4b
    clear HB4b
    generalize rsnS st = R at *
    go_wp2_with fail
    refine (lives15_any _).mono ?_
    rintro e w9 ⟨rfl, hb9⟩
    have HB9 := Kp.mk (HB4.out.trans (hb9.mono HB4.out.size))
    clear hb9
    go_wp2_with fail
    go_ret
    exact ⟨rfl, HB9.out⟩
theorem ssta_arg (v0 v1 : Value) (w : World) (h0 : Arg Try.prog w 9 v0) (h1 : Arg Try.prog w 3 v1) :
    Calls Try.prog 5 #[v0, v1] w fun e w' => e = .returned (.bool true) ∧ Below w.heap.size w w' := by
  obtain ⟨s, rfl, hs⟩ := h0.str Try.underlying9
  obtain ⟨n, rfl, hn⟩ := h1.int Try.underlying3
  exact ssta_walk s n w hs
end Go.Proofs.Ytpgeheblmpjndaa
