/- Steps of scripts (layer 44): words and bounds. -/
import Derived.WalkKit
import Derived.ProofKit
import Derived.Below
import Derived.Lib.Hide
import Derived.Test.YtgogoncpnfojkaaProg
namespace Go.Proofs.Ytgogoncpnfojkaa
open Go.RowKit
set_option linter.unusedVariables false
set_option linter.unusedSimpArgs false

theorem below_thnA {w w1 w2 : World} (h : Below w.heap.size w w1) (h2 : Below w1.heap.size w1 w2) : Below w.heap.size w w2 := h.trans (h2.mono h.size)
theorem bal {w w1 : World} (h : Below w.heap.size w w1) (o : Obj) : Below w.heap.size w (w1.alloc o) := h.alloc h.size o
theorem bcell {W w1 : World} (hb : Below W.heap.size W w1) : (∀ b o, b < W.heap.size → w1.cell? ⟨b, o, none⟩ = W.cell? ⟨b, o, none⟩) ∧ (∀ b o, b < W.heap.size → w1.frozen? ⟨b, o, none⟩ = W.frozen? ⟨b, o, none⟩) :=
  ⟨fun b o h => hb.cell (p := ⟨b, o, none⟩) h, fun b o h => hb.frozen (p := ⟨b, o, none⟩) h⟩
theorem bret {a b : Bool} (h : a = b) : Ending.returned (.bool a) = .returned (.bool b) := by rw [h]

def wordS (n : Int) : ByteArray := if n = 1 then ⟨#[111, 112, 101, 110]⟩ else if n = 2 then ⟨#[115, 101, 110, 100]⟩ else if n = 3 then ⟨#[101, 110, 100]⟩ else if n = 4 then ⟨#[114, 101, 97, 100]⟩ else if n = 5 then ⟨#[103, 114, 97, 110, 116]⟩ else if n = 6 then ⟨#[116, 105, 99, 107]⟩ else if n = 7 then ⟨#[115, 101, 114, 118, 101]⟩ else ⟨#[]⟩
theorem op_ways (n : Int) : (n < 0) ∨ n = 0 ∨ 7 < n ∨ n = 1 ∨ n = 2 ∨ n = 3 ∨ n = 4 ∨ n = 5 ∨ n = 6 ∨ n = 7 := by omega
theorem wordS_out {n : Int} (h : n < 0 ∨ 7 < n) : wordS n = ⟨#[]⟩ := by
  unfold wordS
  repeat (rw [if_neg (by omega)])

def cB (n : Int) : Int := if n = 6 then 0 else 15
def oB (n : Int) : Int := if n = 2 ∨ n = 3 ∨ n = 4 ∨ n = 5 then 1000 else 0
def nB (n : Int) : Int := if n = 6 then 1073741824 else if n = 4 ∨ n = 5 then 1048576 else 0
def tB (n : Int) : Int := if n = 2 then 4096 else 0

theorem awithin_any (n m : Int) (w : World) :
    Calls Try.prog 135 #[.int .i64 n, .int .i64 m] w fun e w' => e = .returned (.bool (decide (0 ≤ n ∧ n ≤ m))) ∧ w = w' := by
  by_cases h : 0 ≤ n
  · by_cases h2 : n ≤ m
    · rw [decide_eq_true (show 0 ≤ n ∧ n ≤ m from ⟨h, h2⟩)]
      go_enter Try.func135, Try.ntmps135
      go_wp2
      go_ret
      exact ⟨by simp [h2], rfl⟩
    · rw [decide_eq_false (show ¬ (0 ≤ n ∧ n ≤ m) from fun g => h2 g.2)]
      go_enter Try.func135, Try.ntmps135
      go_wp2
      go_ret
      exact ⟨by simp [h2], rfl⟩
  · rw [decide_eq_false (show ¬ (0 ≤ n ∧ n ≤ m) from fun g => h g.1)]
    go_enter Try.func135, Try.ntmps135
    go_wp2
    go_ret
    exact ⟨rfl, rfl⟩

theorem abound2 (w : World) : Calls Try.prog 136 #[.int .i64 2] w fun e w' => e = .returned (.agg #[.int .i64 (cB 2), .int .i64 (oB 2), .int .i64 (nB 2), .int .i64 (tB 2)]) ∧ Below w.heap.size w w' := by
  go_enter Try.func136, Try.ntmps136
  go_wp2
  exact bodyPost_ret (v := .agg #[.int .i64 15, .int .i64 1000, .int .i64 0, .int .i64 4096]) (by simp [results, Try.results136, go_sem]) rfl ⟨rfl, bal (Below.refl _ _) _⟩
theorem abound3 (w : World) : Calls Try.prog 136 #[.int .i64 3] w fun e w' => e = .returned (.agg #[.int .i64 (cB 3), .int .i64 (oB 3), .int .i64 (nB 3), .int .i64 (tB 3)]) ∧ Below w.heap.size w w' := by
  go_enter Try.func136, Try.ntmps136
  go_wp2
  exact bodyPost_ret (v := .agg #[.int .i64 15, .int .i64 1000, .int .i64 0, .int .i64 0]) (by simp [results, Try.results136, go_sem]) rfl ⟨rfl, bal (Below.refl _ _) _⟩
theorem abound4 (w : World) : Calls Try.prog 136 #[.int .i64 4] w fun e w' => e = .returned (.agg #[.int .i64 (cB 4), .int .i64 (oB 4), .int .i64 (nB 4), .int .i64 (tB 4)]) ∧ Below w.heap.size w w' := by
  go_enter Try.func136, Try.ntmps136
  go_wp2
  exact bodyPost_ret (v := .agg #[.int .i64 15, .int .i64 1000, .int .i64 1048576, .int .i64 0]) (by simp [results, Try.results136, go_sem]) rfl ⟨rfl, bal (Below.refl _ _) _⟩
theorem abound5 (w : World) : Calls Try.prog 136 #[.int .i64 5] w fun e w' => e = .returned (.agg #[.int .i64 (cB 5), .int .i64 (oB 5), .int .i64 (nB 5), .int .i64 (tB 5)]) ∧ Below w.heap.size w w' := by
  go_enter Try.func136, Try.ntmps136
  go_wp2
  exact bodyPost_ret (v := .agg #[.int .i64 15, .int .i64 1000, .int .i64 1048576, .int .i64 0]) (by simp [results, Try.results136, go_sem]) rfl ⟨rfl, bal (Below.refl _ _) _⟩
theorem abound6 (w : World) : Calls Try.prog 136 #[.int .i64 6] w fun e w' => e = .returned (.agg #[.int .i64 (cB 6), .int .i64 (oB 6), .int .i64 (nB 6), .int .i64 (tB 6)]) ∧ Below w.heap.size w w' := by
  go_enter Try.func136, Try.ntmps136
  go_wp2
  exact bodyPost_ret (v := .agg #[.int .i64 0, .int .i64 0, .int .i64 1073741824, .int .i64 0]) (by simp [results, Try.results136, go_sem]) rfl ⟨rfl, bal (Below.refl _ _) _⟩
theorem abound_any (n : Int) (w : World) :
    Calls Try.prog 136 #[.int .i64 n] w fun e w' => e = .returned (.agg #[.int .i64 (cB n), .int .i64 (oB n), .int .i64 (nB n), .int .i64 (tB n)]) ∧ Below w.heap.size w w' := by
  have hw : (n = 2 ∨ n = 3 ∨ n = 4 ∨ n = 5 ∨ n = 6) ∨ (¬ n = 2 ∧ ¬ n = 3 ∧ ¬ n = 4 ∧ ¬ n = 5 ∧ ¬ n = 6) := by omega
  rcases hw with (rfl | rfl | rfl | rfl | rfl) | ⟨h2, h3, h4, h5, h6⟩
  case inr =>
    have e1 : (n == 2) = false := by rw [beq_eq_false_iff_ne]; exact h2
    have e2 : (n == 3) = false := by rw [beq_eq_false_iff_ne]; exact h3
    have e3 : (n == 4) = false := by rw [beq_eq_false_iff_ne]; exact h4
    have e4 : (n == 5) = false := by rw [beq_eq_false_iff_ne]; exact h5
    have e5 : (n == 6) = false := by rw [beq_eq_false_iff_ne]; exact h6
    have g1 : cB n = 15 := by unfold cB; rw [if_neg h6]
    have g2 : oB n = 0 := by unfold oB; rw [if_neg (by omega)]
    have g3 : nB n = 0 := by unfold nB; rw [if_neg h6, if_neg (by omega)]
    have g4 : tB n = 0 := by unfold tB; rw [if_neg h2]
    rw [g1, g2, g3, g4]
    clear g1 g2 g3 g4 h2 h3 h4 h5 h6
    go_enter Try.func136, Try.ntmps136
    go_wp2
    exact bodyPost_ret (v := .agg #[.int .i64 15, .int .i64 0, .int .i64 0, .int .i64 0]) (by simp [results, Try.results136, go_sem]) rfl ⟨rfl, bal (Below.refl _ _) _⟩
  case inl.inl => exact abound2 w
  case inl.inr.inl => exact abound3 w
  case inl.inr.inr.inl => exact abound4 w
  case inl.inr.inr.inr.inl => exact abound5 w
  case inl.inr.inr.inr.inr => exact abound6 w

set_option maxHeartbeats 3000000 in
theorem aword_any (n : Int) (w : World) :
    Calls Try.prog 103 #[.int .i64 n] w fun e w' => e = .returned (.string (wordS n)) ∧ Below w.heap.size w w' := by
  rcases op_ways n with h | rfl | h | rfl | rfl | rfl | rfl | rfl | rfl | rfl
  · rw [wordS_out (.inl h)]
    go_enter Try.func103, Try.ntmps103
    go_wp2
    go_ret
    exact ⟨rfl, bal (Below.refl _ _) _⟩
  rotate_left 1
  · rw [wordS_out (.inr h)]
    go_enter Try.func103, Try.ntmps103
    go_wp2
    go_ret
    exact ⟨rfl, bal (Below.refl _ _) _⟩
  all_goals
    simp only [wordS]
    go_enter Try.func103, Try.ntmps103
    go_wp2
    go_ret
    exact ⟨rfl, bal (Below.refl _ _) _⟩
/-- May the event be a script's? -/
def inR (op : Int) : Bool := decide (1 ≤ op ∧ op ≤ 7)
def rightB (op c o n k : Int) : Bool := inR op && (decide (0 ≤ c ∧ c ≤ cB op) && (decide (0 ≤ o ∧ o ≤ oB op) && (decide (0 ≤ n ∧ n ≤ nB op) && decide (0 ≤ k ∧ k ≤ tB op))))
theorem word_some {op : Int} (h : inR op = true) : ¬ ((wordS op).toList = []) := by
  have h := of_decide_eq_true h
  have hw : op = 1 ∨ op = 2 ∨ op = 3 ∨ op = 4 ∨ op = 5 ∨ op = 6 ∨ op = 7 := by omega
  rcases hw with rfl | rfl | rfl | rfl | rfl | rfl | rfl <;> exact (by decide +kernel)
theorem word_none {op : Int} (h : inR op = false) : wordS op = ⟨#[]⟩ := by
  have h := of_decide_eq_false h
  by_cases h0 : op = 0
  · subst h0; rfl
  · exact wordS_out (by omega)
set_option maxRecDepth 100000 in
set_option maxHeartbeats 1000000 in
theorem aright_any (op c o n : Int) (t : ByteArray) (w : World) :
    Calls Try.prog 101 #[.agg #[.int .i64 op, .int .i64 c, .int .i64 o, .int .i64 n, .string t]] w fun e w' => e = .returned (.bool (rightB op c o n t.size)) ∧ Below w.heap.size w w' := by
  have HB := Lib.hid (show rightB op c o n t.size = (inR op && (decide (0 ≤ c ∧ c ≤ cB op) && (decide (0 ≤ o ∧ o ≤ oB op) && (decide (0 ≤ n ∧ n ≤ nB op) && decide (0 ≤ (t.size : Int) ∧ (t.size : Int) ≤ tB op))))) from rfl)
  have hb0 := bal (Below.refl w.heap.size w) (.cells #[.int .i64 op, .int .i64 c, .int .i64 o, .int .i64 n, .string t] 87)
  have HB0 := Lib.hid hb0
  clear hb0
  rw [HB.out]
  clear HB
  cases hr : inR op
  · have HW := Lib.hid (word_none hr)
    clear hr
    go_enter Try.func101, Try.ntmps101
    go_wp2_with fail
    refine (abound_any _ _).mono ?_
    rintro e w1 ⟨rfl, hb1⟩
    obtain ⟨hc1, hf1⟩ := bcell hb1
    have hz1 : w.heap.size < w1.heap.size := by have := hb1.size; simp at this; omega
    go_wp2_with fail
    refine (aword_any _ _).mono ?_
    rintro e w2 ⟨rfl, hb2⟩
    rw [HW.out]
    go_wp2_with fail
    go_ret
    exact ⟨rfl, below_thnA (bal (below_thnA HB0.out hb1) _) hb2⟩
  · have hW := word_some hr
    clear hr
    cases h0 : decide (0 ≤ c ∧ c ≤ cB op)
    · have H0 := Lib.hid h0
      clear h0
      go_enter Try.func101, Try.ntmps101
      go_wp2_with fail
      refine (abound_any _ _).mono ?_
      rintro e w1 ⟨rfl, hb1⟩
      obtain ⟨hc1, hf1⟩ := bcell hb1
      have hz1 : w.heap.size < w1.heap.size := by have := hb1.size; simp at this; omega
      go_wp2_with fail
      refine (aword_any _ _).mono ?_
      rintro e w2 ⟨rfl, hb2⟩
      obtain ⟨hc2, hf2⟩ := bcell hb2
      have hz2 : w1.heap.size < w2.heap.size := by have := hb2.size; simp at this; omega
      generalize cB op = C at *
      generalize oB op = O at *
      generalize nB op = M at *
      generalize tB op = T at *
      generalize wordS op = WS at *
      go_wp2_with fail
      refine (awithin_any _ _ _).mono ?_
      rintro e w' ⟨rfl, rfl⟩
      rw [H0.out]
      go_wp2_with fail
      go_ret
      exact ⟨rfl, below_thnA (bal (below_thnA HB0.out hb1) _) hb2⟩
    have H0 := Lib.hid h0
    clear h0
    cases h1 : decide (0 ≤ o ∧ o ≤ oB op)
    · have H1 := Lib.hid h1
      clear h1
      go_enter Try.func101, Try.ntmps101
      go_wp2_with fail
      refine (abound_any _ _).mono ?_
      rintro e w1 ⟨rfl, hb1⟩
      obtain ⟨hc1, hf1⟩ := bcell hb1
      have hz1 : w.heap.size < w1.heap.size := by have := hb1.size; simp at this; omega
      go_wp2_with fail
      refine (aword_any _ _).mono ?_
      rintro e w2 ⟨rfl, hb2⟩
      obtain ⟨hc2, hf2⟩ := bcell hb2
      have hz2 : w1.heap.size < w2.heap.size := by have := hb2.size; simp at this; omega
      generalize cB op = C at *
      generalize oB op = O at *
      generalize nB op = M at *
      generalize tB op = T at *
      generalize wordS op = WS at *
      go_wp2_with fail
      refine (awithin_any _ _ _).mono ?_
      rintro e w' ⟨rfl, rfl⟩
      rw [H0.out]
      go_wp2_with fail
      refine (awithin_any _ _ _).mono ?_
      rintro e w' ⟨rfl, rfl⟩
      rw [H1.out]
      go_wp2_with fail
      go_ret
      exact ⟨rfl, below_thnA (bal (below_thnA HB0.out hb1) _) hb2⟩
    have H1 := Lib.hid h1
    clear h1
    cases h2 : decide (0 ≤ n ∧ n ≤ nB op)
    · have H2 := Lib.hid h2
      clear h2
      go_enter Try.func101, Try.ntmps101
      go_wp2_with fail
      refine (abound_any _ _).mono ?_
      rintro e w1 ⟨rfl, hb1⟩
      obtain ⟨hc1, hf1⟩ := bcell hb1
      have hz1 : w.heap.size < w1.heap.size := by have := hb1.size; simp at this; omega
      go_wp2_with fail
      refine (aword_any _ _).mono ?_
      rintro e w2 ⟨rfl, hb2⟩
      obtain ⟨hc2, hf2⟩ := bcell hb2
      have hz2 : w1.heap.size < w2.heap.size := by have := hb2.size; simp at this; omega
      generalize cB op = C at *
      generalize oB op = O at *
      generalize nB op = M at *
      generalize tB op = T at *
      generalize wordS op = WS at *
      go_wp2_with fail
      refine (awithin_any _ _ _).mono ?_
      rintro e w' ⟨rfl, rfl⟩
      rw [H0.out]
      go_wp2_with fail
      refine (awithin_any _ _ _).mono ?_
      rintro e w' ⟨rfl, rfl⟩
      rw [H1.out]
      go_wp2_with fail
      refine (awithin_any _ _ _).mono ?_
      rintro e w' ⟨rfl, rfl⟩
      rw [H2.out]
      go_wp2_with fail
      go_ret
      exact ⟨rfl, below_thnA (bal (below_thnA HB0.out hb1) _) hb2⟩
    have H2 := Lib.hid h2
    clear h2
    cases h3 : decide (0 ≤ (t.size : Int) ∧ (t.size : Int) ≤ tB op)
    · have H3 := Lib.hid h3
      clear h3
      go_enter Try.func101, Try.ntmps101
      go_wp2_with fail
      refine (abound_any _ _).mono ?_
      rintro e w1 ⟨rfl, hb1⟩
      obtain ⟨hc1, hf1⟩ := bcell hb1
      have hz1 : w.heap.size < w1.heap.size := by have := hb1.size; simp at this; omega
      go_wp2_with fail
      refine (aword_any _ _).mono ?_
      rintro e w2 ⟨rfl, hb2⟩
      obtain ⟨hc2, hf2⟩ := bcell hb2
      have hz2 : w1.heap.size < w2.heap.size := by have := hb2.size; simp at this; omega
      generalize cB op = C at *
      generalize oB op = O at *
      generalize nB op = M at *
      generalize tB op = T at *
      generalize wordS op = WS at *
      go_wp2_with fail
      refine (awithin_any _ _ _).mono ?_
      rintro e w' ⟨rfl, rfl⟩
      rw [H0.out]
      go_wp2_with fail
      refine (awithin_any _ _ _).mono ?_
      rintro e w' ⟨rfl, rfl⟩
      rw [H1.out]
      go_wp2_with fail
      refine (awithin_any _ _ _).mono ?_
      rintro e w' ⟨rfl, rfl⟩
      rw [H2.out]
      go_wp2_with fail
      refine (awithin_any _ _ _).mono ?_
      rintro e w' ⟨rfl, rfl⟩
      rw [H3.out]
      go_wp2_with fail
      go_ret
      exact ⟨rfl, below_thnA (bal (below_thnA HB0.out hb1) _) hb2⟩
    have H3 := Lib.hid h3
    clear h3
    go_enter Try.func101, Try.ntmps101
    go_wp2_with fail
    refine (abound_any _ _).mono ?_
    rintro e w1 ⟨rfl, hb1⟩
    obtain ⟨hc1, hf1⟩ := bcell hb1
    have hz1 : w.heap.size < w1.heap.size := by have := hb1.size; simp at this; omega
    go_wp2_with fail
    refine (aword_any _ _).mono ?_
    rintro e w2 ⟨rfl, hb2⟩
    obtain ⟨hc2, hf2⟩ := bcell hb2
    have hz2 : w1.heap.size < w2.heap.size := by have := hb2.size; simp at this; omega
    generalize cB op = C at *
    generalize oB op = O at *
    generalize nB op = M at *
    generalize tB op = T at *
    generalize wordS op = WS at *
    go_wp2_with fail
    refine (awithin_any _ _ _).mono ?_
    rintro e w' ⟨rfl, rfl⟩
    rw [H0.out]
    go_wp2_with fail
    refine (awithin_any _ _ _).mono ?_
    rintro e w' ⟨rfl, rfl⟩
    rw [H1.out]
    go_wp2_with fail
    refine (awithin_any _ _ _).mono ?_
    rintro e w' ⟨rfl, rfl⟩
    rw [H2.out]
    go_wp2_with fail
    refine (awithin_any _ _ _).mono ?_
    rintro e w' ⟨rfl, rfl⟩
    rw [H3.out]
    go_wp2_with fail
    go_ret
    exact ⟨bret (by simpa using hW), below_thnA (bal (below_thnA HB0.out hb1) _) hb2⟩

end Go.Proofs.Ytgogoncpnfojkaa
