/- First lines (layer 15): two the same; the document's examples; heads that came in. -/
import Derived.Test.YtpgeheblmpjndaaStn
import Derived.Test.YtpgeheblmpjndaaStp
import Derived.Test.YtpgeheblmpjndaaStb
namespace Go.Proofs.Ytpgeheblmpjndaa
open Go.RowKit
set_option linter.unusedVariables false
set_option linter.unusedSimpArgs false

set_option maxRecDepth 100000 in
set_option maxHeartbeats 1000000 in
theorem same15_any (m t : ByteArray) (mi st : Int) (r : ByteArray) (a1 a2 : Option Addr) (n1 n2 c1 c2 : Nat) (w : World) :
    Calls Try.prog 20 #[.agg #[.string m, .string t, .int .i64 mi, .int .i64 st, .string r, .slice a1 n1 c1], .agg #[.string m, .string t, .int .i64 mi, .int .i64 st, .string r, .slice a2 n2 c2]] w fun e w' => e = .returned (.bool true) ∧ Below w.heap.size w w' := by
  have e1 : (m.toList == m.toList) = true := beq_self_eq_true _
  have e2 : (t.toList == t.toList) = true := beq_self_eq_true _
  have e3 : (r.toList == r.toList) = true := beq_self_eq_true _
  have e4 : (mi == mi) = true := beq_self_eq_true _
  have e5 : (st == st) = true := beq_self_eq_true _
  go_enter Try.func20, Try.ntmps20
  go_wp2_with fail
  go_ret
  exact ⟨rfl, ((Below.refl _ _).alloc (Nat.le_refl _) _).alloc (by simp) _⟩
set_option maxRecDepth 100000 in
set_option maxHeartbeats 4000000 in
theorem lives15_any (w : World) : Calls Try.prog 11 #[] w fun e w' => e = .returned (.bool true) ∧ Below w.heap.size w w' := by
  have HQ := Kp.mk (show reqM ⟨#[71, 69, 84, 32, 47, 32, 72, 84, 84, 80, 47, 49, 46, 49]⟩ = ⟨#[71, 69, 84]⟩ ∧ reqT ⟨#[71, 69, 84, 32, 47, 32, 72, 84, 84, 80, 47, 49, 46, 49]⟩ = ⟨#[47]⟩ ∧ reqN ⟨#[71, 69, 84, 32, 47, 32, 72, 84, 84, 80, 47, 49, 46, 49]⟩ = 1 ∧ reqE ⟨#[71, 69, 84, 32, 47, 32, 72, 84, 84, 80, 47, 49, 46, 49]⟩ = 0 by decide +kernel)
  have HT := Kp.mk (show staN ⟨#[72, 84, 84, 80, 47, 49, 46, 48, 32, 50, 48, 48, 32, 79, 75]⟩ = 0 ∧ staS ⟨#[72, 84, 84, 80, 47, 49, 46, 48, 32, 50, 48, 48, 32, 79, 75]⟩ = 200 ∧ staR ⟨#[72, 84, 84, 80, 47, 49, 46, 48, 32, 50, 48, 48, 32, 79, 75]⟩ = ⟨#[79, 75]⟩ ∧ staE ⟨#[72, 84, 84, 80, 47, 49, 46, 48, 32, 50, 48, 48, 32, 79, 75]⟩ = 0 by decide +kernel)
  go_enter Try.func11, Try.ntmps11
  go_wp2_with fail
  refine (request_any _ _ (by decide)).mono ?_
  rintro e w1 ⟨rfl, hb1⟩
  rw [HQ.out.1, HQ.out.2.1, HQ.out.2.2.1, HQ.out.2.2.2]
  have K1 := Kp.mk (heap_alloc_new w1 (.cells #[.string ⟨#[71, 69, 84]⟩, .string ⟨#[47]⟩, .int .i64 1, .int .i64 0, .string ⟨#[]⟩, .slice none 0 0] 24))
  have HB1 := Kp.mk (hb1.alloc hb1.size (.cells #[.string ⟨#[71, 69, 84]⟩, .string ⟨#[47]⟩, .int .i64 1, .int .i64 0, .string ⟨#[]⟩, .slice none 0 0] 24))
  clear hb1
  go_wp2_with fail
  refine (status_any _ _ (by decide)).mono ?_
  rintro e w2 ⟨rfl, hb2⟩
  rw [HT.out.1, HT.out.2.1, HT.out.2.2.1, HT.out.2.2.2]
  have K2 := Kp.mk ((hb2.block w1.heap.size (by simp)).trans K1.out)
  have HB2 := Kp.mk (HB1.out.trans (hb2.mono HB1.out.size))
  have K3 := Kp.mk (blk_alloc (o2 := .cells #[.string ⟨#[]⟩, .string ⟨#[]⟩, .int .i64 0, .int .i64 200, .string ⟨#[79, 75]⟩, .slice none 0 0] 24) K2.out)
  have K4 := Kp.mk (heap_alloc_new w2 (.cells #[.string ⟨#[]⟩, .string ⟨#[]⟩, .int .i64 0, .int .i64 200, .string ⟨#[79, 75]⟩, .slice none 0 0] 24))
  have HB3 := Kp.mk (HB2.out.alloc HB2.out.size (.cells #[.string ⟨#[]⟩, .string ⟨#[]⟩, .int .i64 0, .int .i64 200, .string ⟨#[79, 75]⟩, .slice none 0 0] 24))
  have g0 := blk_cell (i := 0) K3.out rfl
  have g1 := blk_cell (i := 1) K3.out rfl
  have g2 := blk_cell (i := 2) K3.out rfl
  have g3 := blk_cell (i := 3) K3.out rfl
  have g4 := blk_cell (i := 4) K3.out rfl
  have g5 := blk_cell (i := 5) K3.out rfl
  clear hb2
  go_wp2_with fail
  refine (same15_any _ _ _ _ _ _ _ _ _ _ _ _).mono ?_
  rintro e w3 ⟨rfl, hb3⟩
  have K5 := Kp.mk ((hb3.block w2.heap.size (by simp)).trans K4.out)
  have HB4 := Kp.mk (HB3.out.trans (hb3.mono HB3.out.size))
  clear g0 g1 g2 g3 g4 g5 hb3
  have g0 := blk_cell (i := 0) K5.out rfl
  have g1 := blk_cell (i := 1) K5.out rfl
  have g2 := blk_cell (i := 2) K5.out rfl
  have g3 := blk_cell (i := 3) K5.out rfl
  have g4 := blk_cell (i := 4) K5.out rfl
  have g5 := blk_cell (i := 5) K5.out rfl
  go_wp2_with fail
  refine (same15_any _ _ _ _ _ _ _ _ _ _ _ _).mono ?_
  rintro e w4 ⟨rfl, hb4⟩
  have HB5 := Kp.mk (HB4.out.trans (hb4.mono HB4.out.size))
  have HV := Kp.mk (show rsnS 400 = ⟨#[66, 97, 100, 32, 82, 101, 113, 117, 101, 115, 116]⟩ from rfl)
  clear g0 g1 g2 g3 g4 g5 hb4
  go_wp2_with fail
  refine (reason_any 400 _).mono ?_
  rintro e w5 ⟨rfl, rfl⟩
  rw [HV.out]
  go_wp2_with fail
  go_ret
  exact ⟨rfl, HB5.out⟩
end Go.Proofs.Ytpgeheblmpjndaa
