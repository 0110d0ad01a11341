/- Steps of scripts (layer 44): the law ActTells where the event may be. -/
import Derived.Test.YtkapaglbdehhnaaAcw
namespace Go.Proofs.Ytkapaglbdehhnaa
open Go.RowKit
set_option linter.unusedVariables false
set_option linter.unusedSimpArgs false

theorem na1 (v : Value) (w : World) : (nilAhead 272 97 v "Event").run Try.prog w = .ok (some false) w := by kernel_rfl
theorem me1 (v : Value) (w : World) : (method 272 97 v "Event").run Try.prog w = .ok (102, v) w := by kernel_rfl
theorem na2 (v : Value) (w : World) : (nilAhead 272 90 v "Event").run Try.prog w = .ok (some false) w := by kernel_rfl
theorem me2 (v : Value) (w : World) : (method 272 90 v "Event").run Try.prog w = .ok (101, v) w := by kernel_rfl
theorem na3 (v : Value) (w : World) : (nilAhead 272 99 v "Event").run Try.prog w = .ok (some false) w := by kernel_rfl
theorem me3 (v : Value) (w : World) : (method 272 99 v "Event").run Try.prog w = .ok (103, v) w := by kernel_rfl
theorem na4 (v : Value) (w : World) : (nilAhead 272 101 v "Event").run Try.prog w = .ok (some false) w := by kernel_rfl
theorem me4 (v : Value) (w : World) : (method 272 101 v "Event").run Try.prog w = .ok (104, v) w := by kernel_rfl
theorem na5 (v : Value) (w : World) : (nilAhead 272 102 v "Event").run Try.prog w = .ok (some false) w := by kernel_rfl
theorem me5 (v : Value) (w : World) : (method 272 102 v "Event").run Try.prog w = .ok (105, v) w := by kernel_rfl
theorem na6 (v : Value) (w : World) : (nilAhead 272 104 v "Event").run Try.prog w = .ok (some false) w := by kernel_rfl
theorem me6 (v : Value) (w : World) : (method 272 104 v "Event").run Try.prog w = .ok (106, v) w := by kernel_rfl
theorem na7 (v : Value) (w : World) : (nilAhead 272 105 v "Event").run Try.prog w = .ok (some false) w := by kernel_rfl
theorem me7 (v : Value) (w : World) : (method 272 105 v "Event").run Try.prog w = .ok (107, v) w := by kernel_rfl

set_option maxRecDepth 100000 in
set_option maxHeartbeats 4000000 in
theorem atells4 (c o n p : Int) (t : ByteArray) (w : World) (ht : (t.size ≤ 6000 ∧ ⟨#[]⟩ = t) ∨ (¬ t.size ≤ 6000 ∧ ⟨#[]⟩ = t.extract 0 6000)) (hr : rightB 4 c o n (ByteArray.size ⟨#[]⟩) = true) :
    Calls Try.prog 8 #[.agg #[.int .i64 4, .int .i64 c, .int .i64 o, .int .i64 n, .string t], .int .i64 p] w fun e w' => e = .returned (.bool true) ∧ Below w.heap.size w w' := by
  have HR := Lib.hid hr
  have HB0 := Lib.hid (bal (Below.refl w.heap.size w) (.cells #[.int .i64 4, .int .i64 c, .int .i64 o, .int .i64 n, .string ⟨#[]⟩] 80))
  have hna := na4
  have hme := me4
  clear hr
  rcases ht with ⟨ht, hT⟩ | ⟨ht, hT⟩
  all_goals
    have HT := Lib.hid hT
    clear hT
    go_enter Try.func8, Try.ntmps8
    go_wp2_with fail
    try rw [← HT.out]
    refine (aof4 _ _ _ _ _ HR.out).mono ?_
    rintro e w1 ⟨rfl, hb1⟩
    obtain ⟨hc1, hf1⟩ := bcell hb1
    have hz1 : w.heap.size < w1.heap.size := by have := hb1.size; simp at this; omega
    go_wp2_with fail
    try rw [← HT.out]
    refine (rright_any _ _ _ _ _ _).mono ?_
    rintro e w2 ⟨rfl, hb2⟩
    rw [HR.out]
    obtain ⟨hc2, hf2⟩ := bcell hb2
    have hz2 : w.heap.size < w2.heap.size := by have := hb2.size; (try simp at this); omega
    go_wp2_with fail
    try rw [← HT.out]
    refine (aright_any _ _ _ _ _ _).mono ?_
    rintro e w3 ⟨rfl, hb3⟩
    rw [HR.out]
    obtain ⟨hc3, hf3⟩ := bcell hb3
    have hz3 : w.heap.size < w3.heap.size := by have := hb3.size; (try simp at this); omega
    go_wp2_with fail
    refine (aword_any _ _).mono ?_
    rintro e w4 ⟨rfl, hb4⟩
    obtain ⟨hc4, hf4⟩ := bcell hb4
    have hz4 : w.heap.size < w4.heap.size := by have := hb4.size; (try simp at this); omega
    go_wp2_with fail
    refine (rword_any _ _).mono ?_
    rintro e w5 ⟨rfl, hb5⟩
    obtain ⟨hc5, hf5⟩ := bcell hb5
    have hz5 : w.heap.size < w5.heap.size := by have := hb5.size; (try simp at this); omega
    have g : ∀ j, w5.cell? ⟨w.heap.size, j, none⟩ = (w.alloc (.cells #[.int .i64 4, .int .i64 c, .int .i64 o, .int .i64 n, .string ⟨#[]⟩] 80)).cell? ⟨w.heap.size, j, none⟩ := fun j => by
      rw [hc5 _ _ hz4, hc4 _ _ hz3, hc3 _ _ hz2, hc2 _ _ hz1, hc1 _ _ (by simp)]
    have g0 : w5.cell? ⟨w.heap.size, 0, none⟩ = some (.int .i64 4) := by rw [g]; go_simp
    have g1 : w5.cell? ⟨w.heap.size, 1, none⟩ = some (.int .i64 c) := by rw [g]; go_simp
    have g2 : w5.cell? ⟨w.heap.size, 2, none⟩ = some (.int .i64 o) := by rw [g]; go_simp
    have g3 : w5.cell? ⟨w.heap.size, 3, none⟩ = some (.int .i64 n) := by rw [g]; go_simp
    have g4 : w5.cell? ⟨w.heap.size, 4, none⟩ = some (.string ⟨#[]⟩) := by rw [g]; go_simp
    clear hc1 hc2 hc3 hc4 hc5 hf1 hf2 hf3 hf4 hf5 g
    go_wp2_with fail
    first | go_region_with (first
      | (go_at_call 104; refine (aev4 _ _ _ _).mono ?_; rintro e w6 ⟨rfl, hb6⟩; have k0 := (hb6.cell (p := ⟨w.heap.size, 0, none⟩) hz5).trans g0; have k1 := (hb6.cell (p := ⟨w.heap.size, 1, none⟩) hz5).trans g1; have k2 := (hb6.cell (p := ⟨w.heap.size, 2, none⟩) hz5).trans g2; have k3 := (hb6.cell (p := ⟨w.heap.size, 3, none⟩) hz5).trans g3; have k4 := (hb6.cell (p := ⟨w.heap.size, 4, none⟩) hz5).trans g4)
      | (go_at_call 47; refine (lives44_any _).mono ?_; rintro e w7 ⟨rfl, hb7⟩)) | fail
    all_goals
      go_wp2_with fail
      go_ret
      exact ⟨by first | rfl | exact bret (by simp [← HT.out]) | exact bret (by simp), below_thn (below_thn (below_thn (below_thn (below_thn (below_thn HB0.out hb1) hb2) hb3) hb4) hb5).drew (below_thn hb6 hb7)⟩
end Go.Proofs.Ytkapaglbdehhnaa
