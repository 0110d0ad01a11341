/- Proved: the law ActAsserts returns true for every input and leaves its arguments as they were. Conditions: none beside the row itself. -/
import Derived.Test.YtgogoncpnfojkaaRows
import Derived.Test.YtgogoncpnfojkaaAsd
import Derived.Test.YtgogoncpnfojkaaFrm
import Derived.WalkKit
import Derived.ProofKit
import Derived.OpenShut
import Derived.ShutString
import Derived.ChangeOld
import Derived.Below
namespace Go.Proofs.Ytgogoncpnfojkaa.actAsserts
open Go.ChangeShapes Go.WideShapes Go.ChangeAt Go.RowKit
open Go.ChangeMaps (open_string shut_string)
set_option linter.unusedVariables false
set_option linter.unusedSimpArgs false

theorem own : ownKnob Try.prog.godebug = none := by kernel_rfl
theorem laidOut : laidOutB Try.prog = true := by kernel_rfl
theorem len5_list (cs : List Value) (h : cs.length = 5) : ∃ x0 x1 x2 x3 x4, cs = [x0, x1, x2, x3, x4] := by
  match cs, h with
  | [x0, x1, x2, x3, x4], _ => exact ⟨x0, x1, x2, x3, x4, rfl⟩
theorem _root_.Go.Proofs.Ytgogoncpnfojkaa.Try.fcells3 : Try.prog.cellsOf 3 = 1 := by kernel_rfl
theorem _root_.Go.Proofs.Ytgogoncpnfojkaa.Try.fcells9 : Try.prog.cellsOf 9 = 1 := by kernel_rfl
theorem _root_.Go.Proofs.Ytgogoncpnfojkaa.Try.fcells85 : Try.prog.cellsOf 85 = 2 := by kernel_rfl
theorem _root_.Go.Proofs.Ytgogoncpnfojkaa.Try.fcells87 : Try.prog.cellsOf 87 = 5 := by kernel_rfl

theorem walk (a0_0 : Int) (a0_1 : Int) (a0_2 : Int) (a0_3 : Int) (a0_4 : ByteArray) (w : World) (w0_0 : (Lit.int .i64 a0_0).wf = true) (w0_1 : (Lit.int .i64 a0_1).wf = true) (w0_2 : (Lit.int .i64 a0_2).wf = true) (w0_3 : (Lit.int .i64 a0_3).wf = true) (w0_4 : a0_4.size ≤ maxLen) :
    Calls Try.prog 10 #[.agg #[.int .i64 a0_0, .int .i64 a0_1, .int .i64 a0_2, .int .i64 a0_3, .string a0_4]] w fun e w' => e = .returned (.bool true) ∧ Below w.heap.size w w' := (fun op c o n t w _ _ _ _ _ => aasserts_walk op c o n t w) a0_0 a0_1 a0_2 a0_3 a0_4 w w0_0 w0_1 w0_2 w0_3 w0_4

set_option maxRecDepth 100000 in
theorem lifted (os : Os) (started : os.Started) (H : Type) (enc : TypeId × Value → H) :
    ReturnsInHanded {} Try.checked os 10 .any (Rows.actAssertsSpec.pre6 enc Try.prog Try.f10 Rows.actAssertsRow.domain false) (Rows.actAssertsSpec.post enc Try.prog Try.f10 false true false false) := by
  refine returnsInHanded_of_change (C := Try.checked) own started (by kernel_rfl) Try.func10
    (ChangeSpec.witness6 (enc := enc) (C := Try.checked) false ⟨#[], #[.agg #[.int .i64 0, .int .i64 0, .int .i64 0, .int .i64 0, .string ByteArray.empty]], []⟩ 8 (by kernel_rfl) (by kernel_rfl) (by kernel_rfl) (by kernel_rfl)) ?_
  intro W base args ds gs before hval0 hW hcnd _
  have hval : ∀ (j : Nat) t v, Try.f10.params[j]? = some t → args[j]? = some v → Value.okWide Try.prog W .any base t v := hval0
  have hW' := hW
  obtain ⟨p, q, hA0, hV, rfl, hfz, hnd⟩ := hW
  have hA : DataW.TrodAll enc Try.prog W 0 (fun _ => true) true Try.f10.params.toList args.toList ds p := hA0
  rw [Try.params10] at hA hval
  obtain ⟨v0, vs0, d0, ds0, p0, q0, hargs, rfl, rfl, h0, r0⟩ := trodAll_cons hA
  obtain ⟨rfl, rfl, rfl⟩ := trodAll_nil r0
  obtain rfl : args = #[v0] := by cases args; simp_all
  obtain ⟨rfl, rfl⟩ := trodVars_none hV
  clear hA0 hval0
  have k0 := h0
  have lt0 : ∀ x ∈ p0, x.block < W.heap.size := by obtain ⟨m, hm⟩ := k0; exact DataW.trod_lt m _ _ _ hm
  obtain ⟨cs0, rfl, hsz0, hfs0⟩ := frm_struct Try.underlying87 (hval 0 87 v0 rfl rfl) h0
  rw [Try.fcells87] at hsz0
  obtain ⟨c0_0, c0_1, c0_2, c0_3, c0_4, rfl⟩ := len5_list cs0 hsz0
  obtain ⟨n0_0, y0_0, g0_0⟩ := hfs0 0 _ rfl
  simp [Try.fcells3] at g0_0
  obtain ⟨a0_0, e0_0, w0_0⟩ := frm_int Try.underlying3 g0_0
  subst e0_0
  obtain ⟨n0_1, y0_1, g0_1⟩ := hfs0 1 _ rfl
  simp [Try.fcells85] at g0_1
  have g0_1f := frm_inner Try.underlying85 g0_1
  obtain ⟨n0_1_0, y0_1_0, g0_1_0⟩ := g0_1f 0 _ rfl
  simp [Try.fcells3] at g0_1_0
  obtain ⟨a0_1, e0_1, w0_1⟩ := frm_int Try.underlying3 g0_1_0
  subst e0_1
  obtain ⟨n0_1_1, y0_1_1, g0_1_1⟩ := g0_1f 1 _ rfl
  simp [Try.fcells3] at g0_1_1
  obtain ⟨a0_2, e0_2, w0_2⟩ := frm_int Try.underlying3 g0_1_1
  subst e0_2
  obtain ⟨n0_2, y0_2, g0_2⟩ := hfs0 2 _ rfl
  simp [Try.fcells3] at g0_2
  obtain ⟨a0_3, e0_3, w0_3⟩ := frm_int Try.underlying3 g0_2
  subst e0_3
  obtain ⟨n0_3, y0_3, g0_3⟩ := hfs0 3 _ rfl
  simp [Try.fcells9] at g0_3
  obtain ⟨a0_4, e0_4, w0_4⟩ := frm_string Try.underlying9 g0_3
  subst e0_4
  refine (walk a0_0 a0_1 a0_2 a0_3 a0_4 W w0_0 w0_1 w0_2 w0_3 w0_4).mono fun e W' ⟨he, bel⟩ => ?_
  subst he
  exact ⟨_, rfl, _, _, _, [], _, [], hW', trodAll_mk1 (shut_bool Try.underlying4 _), (trodAll_cons_mk (Below.trod laidOut (by kernel_rfl) (of_decide_eq_true (by kernel_rfl)) k0 bel lt0) trodAll_mk0), rfl, bel.frame _, fun h => by cases h⟩

theorem over : Rows.actAssertsRow.holds Try.pinned (OpenSpec.ofChange Rows.actAssertsSpec) :=
  OpenClaim.holds_of_wide 10 Try.f10 rfl rfl rfl rfl rfl rfl rfl ⟨rfl, rfl, rfl, rfl, rfl⟩ rfl rfl rfl rfl rfl (by kernel_rfl) Try.func10 (by kernel_rfl)
    (of_decide_eq_true (by kernel_rfl)) (by unfold Func.isWrapper; first | (rw [if_pos (by decide +kernel)]; kernel_rfl) | (rw [if_neg (by decide +kernel)]; exact ⟨rfl, rfl⟩))
    (fun os started H enc _ => lifted os started H enc)

theorem proved : Rows.ActAssertsSaid := over
#print axioms proved
end Go.Proofs.Ytgogoncpnfojkaa.actAsserts
