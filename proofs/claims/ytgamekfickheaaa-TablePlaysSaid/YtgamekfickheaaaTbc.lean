/- Things in slots (layer 40): a table and a pool that are none; the document's example; the law TableNone. -/
import Derived.Test.YtgamekfickheaaaTbb
import Derived.Test.YtgamekfickheaaaQs
import Derived.RegionTactic
import Derived.BigQuiet
namespace Go.Proofs.Ytgamekfickheaaa
open Go.RowKit
set_option linter.unusedVariables false
set_option linter.unusedSimpArgs false

theorem nput_any (x : Int) (w : World) : Calls Try.prog 85 #[.pointer none, .int .i64 x] w fun e w' => e = .returned (.tuple #[.int .i64 0, .bool false]) ∧ w = w' := by
  go_enter Try.func85, Try.ntmps85
  go_wp2_with fail
  refine (tall_nil _).mono ?_
  rintro e w1 ⟨rfl, rfl⟩
  go_wp2_with fail
  go_loopw [11] (fun i wr => i = .int .i64 0 ∧ wr = w) (fun _ _ => 0)
  case atStart => exact ⟨rfl, rfl⟩
  case round =>
    obtain ⟨rfl, rfl⟩ := hrel
    go_wp2_with fail
    go_ret2
    exact ⟨rfl, rfl⟩
theorem nget_any (n : Int) (w : World) : Calls Try.prog 33 #[.pointer none, .int .i64 n] w fun e w' => e = .returned (.tuple #[.int .i64 0, .bool false]) ∧ w = w' := by
  go_enter Try.func33, Try.ntmps33
  go_wp2_with fail
  refine (tall_nil _).mono ?_
  rintro e w1 ⟨rfl, rfl⟩
  by_cases h0 : n < 0
  · go_wp2_with fail
    go_ret2
    exact ⟨rfl, rfl⟩
  · have q2 : 0 ≤ n := by omega
    go_wp2_with fail
    go_ret2
    exact ⟨rfl, rfl⟩
theorem ndrop_any (n : Int) (w : World) : Calls Try.prog 36 #[.pointer none, .int .i64 n] w fun e w' => e = .returned (.bool false) ∧ w = w' := by
  go_enter Try.func36, Try.ntmps36
  go_wp2_with fail
  refine (nget_any n _).mono ?_
  rintro e w1 ⟨rfl, rfl⟩
  go_wp2_with fail
  go_ret
  exact ⟨rfl, rfl⟩
theorem nlen_any (w : World) : Calls Try.prog 87 #[.pointer none] w fun e w' => e = .returned (.int .i64 0) ∧ w = w' := by
  go_enter Try.func87, Try.ntmps87
  go_wp2_with fail
  refine (tall_nil _).mono ?_
  rintro e w1 ⟨rfl, rfl⟩
  go_wp2_with fail
  go_loopw [3, 9] (fun n i wr => i = .int .i64 0 ∧ n = .int .i64 0 ∧ wr = w) (fun _ _ _ => 0)
  case atStart => exact ⟨rfl, rfl, rfl⟩
  case round =>
    obtain ⟨rfl, rfl, rfl⟩ := hrel
    go_wp2_with fail
    go_ret
    exact ⟨rfl, rfl⟩
theorem nroom_any (w : World) : Calls Try.prog 89 #[.pointer none] w fun e w' => e = .returned (.int .i64 0) ∧ w = w' := by
  go_enter Try.func89, Try.ntmps89
  go_wp2_with fail
  refine (tall_nil _).mono ?_
  rintro e w1 ⟨rfl, rfl⟩
  go_wp2_with fail
  refine (nlen_any _).mono ?_
  rintro e w1 ⟨rfl, rfl⟩
  go_wp2_with fail
  go_ret
  exact ⟨rfl, rfl⟩
theorem nall_any (w : World) : Calls Try.prog 90 #[.pointer none] w fun e w' => e = .returned (.func (.func 134) #[] #[.pointer (some ⟨w.heap.size, 0, none⟩)]) ∧ w' = w.alloc (.cells #[.pointer none] 44) := by
  go_enter Try.func90, Try.ntmps90
  go_wp2_with fail
  go_ret
  exact ⟨rfl, rfl⟩
theorem nclone_any (w : World) : Calls Try.prog 135 #[.slice none 0 0] w fun e w' => e = .returned (.slice none 0 0) ∧ w = w' := by
  have hE : ∀ w : World, (binOp .eql 125 (.slice none 0 0) (.slice none 0 0)).run Try.prog w = .ok (.bool true) w := fun w => by kernel_rfl
  go_enter Try.func135, Try.ntmps135
  go_wp2_with fail
  go_ret
  exact ⟨rfl, rfl⟩
theorem nall1_any (f : Value) (b : Nat) (w : World) (hc : w.cell? ⟨b, 0, none⟩ = some (.pointer none)) : Calls Try.prog 134 #[f, .pointer (some ⟨b, 0, none⟩)] w fun e w' => (∃ v, e = .returned v) ∧ w = w' := by
  go_enter Try.func134, Try.ntmps134
  go_wp2_with fail
  refine (tall_nil _).mono ?_
  rintro e w1 ⟨rfl, rfl⟩
  go_wp2_with fail
  refine (nclone_any _).mono ?_
  rintro e w1 ⟨rfl, rfl⟩
  go_wp2_with fail
  go_loopw [9] (fun i wr => i = .int .i64 0 ∧ wr = w) (fun _ _ => 0)
  case atStart => exact ⟨rfl, rfl⟩
  case round =>
    obtain ⟨rfl, rfl⟩ := hrel
    go_wp2_with fail
    first | go_end0 | refine bodyPost_ret (results_none rfl _ _ _) rfl ?_
    exact ⟨⟨_, rfl⟩, rfl⟩
theorem tnew_no (n : Int) (w : World) (h : n < 0) : Calls Try.prog 29 #[.int .i64 n] w fun e w' => e = .returned (.pointer none) ∧ w = w' := by
  go_enter Try.func29, Try.ntmps29
  go_wp2_with fail
  go_ret
  exact ⟨rfl, rfl⟩
def NewT (S : List Slt) (w : World) (e : Ending) (w' : World) : Prop := ∃ b g, e = .returned (.pointer (some ⟨b, 0, none⟩)) ∧ TB b g S w' ∧ Below w.heap.size w w' ∧ w.heap.size ≤ g
set_option maxRecDepth 100000 in
set_option maxHeartbeats 1000000 in
theorem tnew_two (w : World) : Calls Try.prog 29 #[.int .i64 2] w (NewT [(0, false), (0, false)] w) := by
  have hmk : ∀ w : World, (Instr.makeSlice 125 (.int .i64 2) (.int .i64 2)).run Try.prog w = .ok (.slice (some ⟨w.heap.size, 0, none⟩) 2 2) (w.alloc (.cells #[.int .i64 0, .bool false, .int .i64 0, .bool false] 132)) := fun w => by kernel_rfl
  go_enter Try.func29, Try.ntmps29
  go_wp2_with fail
  go_ret
  have e1 : (w.alloc (.cells #[.int .i64 0, .bool false, .int .i64 0, .bool false] 132)).heap.size = w.heap.size + 1 := World.size_alloc _ _
  have k1 := heap_alloc_new (w.alloc (.cells #[.int .i64 0, .bool false, .int .i64 0, .bool false] 132)) (.cells #[.slice (some ⟨w.heap.size, 0, none⟩) 2 2] 127)
  rw [e1] at k1
  exact ⟨w.heap.size + 1, w.heap.size, rfl, ⟨k1, blk_alloc (heap_alloc_new w _), by omega⟩, ((Below.refl _ _).alloc (Nat.le_refl _) _).alloc (by rw [e1]; omega) _, Nat.le_refl _⟩
theorem tputv_any (b g : Nat) (S : List Slt) (x : Int) (w : World) (h : TB b g S w) (hl : S.length ≤ 1000) :
    Calls Try.prog 32 #[.pointer (some ⟨b, 0, none⟩), .int .i64 x] w fun e w' => e = .returned (.int .i64 (if putB S = true then (putN S : Int) else -1)) ∧ TB b g (putS S x) w' ∧ Kpt (fun k => k ≠ g) w w' := by
  have H := Kp.mk h
  clear h
  cases hb : putB S
  all_goals
    go_enter Try.func32, Try.ntmps32
    go_wp2_with fail
    refine (tput_any b g S x _ H.out hl).mono ?_
    rintro e w1 ⟨rfl, ht, hk⟩
    rw [hb]
    have HT := Kp.mk ht
    have HK := Kp.mk hk
    clear ht hk
    go_wp2_with fail
    go_ret
    exact ⟨rfl, HT.out, HK.out⟩
set_option maxRecDepth 100000 in
set_option maxHeartbeats 1000000 in
theorem lives40_any (w : World) : Calls Try.prog 30 #[] w fun e w' => e = .returned (.bool true) ∧ Below w.heap.size w w' := by
  go_enter Try.func30, Try.ntmps30
  go_wp2_with fail
  refine (tnew_two _).mono ?_
  rintro e w1 ⟨b, g, rfl, ht, hb, hg⟩
  have HB := Kp.mk hb
  have HT := Kp.mk ht
  have HG := Kp.mk hg
  clear ht hb hg
  go_wp2_with fail
  refine (tput_any b g _ 7 _ HT.out (by decide)).mono ?_
  rintro e w2 ⟨rfl, ht2, hk2⟩
  have HT2 := Kp.mk (show TB b g [(7, true), (0, false)] w2 from ht2)
  have HK2 := Kp.mk hk2
  rw [show putB [((0 : Int), false), (0, false)] = true from rfl, show putN [((0 : Int), false), (0, false)] = 0 from rfl]
  clear ht2 hk2
  go_wp2_with fail
  refine (tput_any b g _ 8 _ HT2.out (by decide)).mono ?_
  rintro e w3 ⟨rfl, ht3, hk3⟩
  have HT3 := Kp.mk (show TB b g [(7, true), (8, true)] w3 from ht3)
  have HK3 := Kp.mk (HK2.out.trans hk3)
  rw [show putB [((7 : Int), true), (0, false)] = true from rfl, show putN [((7 : Int), true), (0, false)] = 1 from rfl]
  clear ht3 hk3
  go_wp2_with fail
  refine (tdrop_any b g _ 0 _ HT3.out (by decide)).mono ?_
  rintro e w4 ⟨rfl, ht4, hk4⟩
  have HT4 := Kp.mk (show TB b g [(0, false), (8, true)] w4 from ht4)
  have HK4 := Kp.mk (HK3.out.trans hk4)
  rw [show (getP [((7 : Int), true), (8, true)] 0).2 = true from rfl]
  clear ht4 hk4
  go_wp2_with fail
  refine (tputv_any b g _ 9 _ HT4.out (by decide)).mono ?_
  rintro e w5 ⟨rfl, ht5, hk5⟩
  have HT5 := Kp.mk (show TB b g [(9, true), (8, true)] w5 from ht5)
  have HK5 := Kp.mk (HK4.out.trans hk5)
  rw [show (if putB [((0 : Int), false), (8, true)] = true then (putN [((0 : Int), false), (8, true)] : Int) else -1) = 0 from rfl]
  clear ht5 hk5
  go_wp2_with fail
  refine (tputv_any b g _ 5 _ HT5.out (by decide)).mono ?_
  rintro e w6 ⟨rfl, ht6, hk6⟩
  have HK6 := Kp.mk (HK5.out.trans hk6)
  rw [show (if putB [((9 : Int), true), (8, true)] = true then (putN [((9 : Int), true), (8, true)] : Int) else -1) = -1 from rfl]
  clear ht6 hk6
  go_wp2_with fail
  refine (tnew_no (-1) _ (by decide)).mono ?_
  rintro e w7 ⟨rfl, rfl⟩
  go_wp2_with fail
  go_ret
  exact ⟨rfl, HB.out.trans (HK6.out.below HB.out.size fun k hk => by have := HG.out; omega)⟩
def BoxM (b : Nat) (w0 : World) (w : World) : Prop := w.heap[b]? = some (.cells #[.int .i64 0] 3 (0, 0)) ∧ Below b w0 w ∧ b < w.heap.size
theorem BoxM.drew {b : Nat} {w0 w : World} (h : BoxM b w0 w) : BoxM b w0 w.drew := ⟨h.1, ⟨h.2.1.os, h.2.1.tape, h.2.1.output, h.2.1.size, h.2.1.block⟩, h.2.2⟩
theorem BoxM.below {b : Nat} {w0 w w' : World} (h : BoxM b w0 w) (hb : Below w.heap.size w w') : BoxM b w0 w' :=
  ⟨(hb.block _ h.2.2).trans h.1, h.2.1.trans (hb.mono (Nat.le_of_lt h.2.2)), Nat.lt_of_lt_of_le h.2.2 hb.size⟩
end Go.Proofs.Ytgamekfickheaaa
