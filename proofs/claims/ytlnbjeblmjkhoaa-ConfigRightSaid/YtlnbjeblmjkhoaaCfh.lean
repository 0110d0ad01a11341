/- Settings (layer 13): settings as an argument; ConfigRight (bin/mkcfg.py). -/
import Derived.Test.YtlnbjeblmjkhoaaCfg
namespace Go.Proofs.Ytlnbjeblmjkhoaa
open Go.RowKit
set_option linter.unusedVariables false
set_option linter.unusedSimpArgs false

theorem Try.cgCf : Try.prog.cellsOf 25 = 18 := by kernel_rfl
theorem Try.cgLm : Try.prog.cellsOf 23 = 5 := by kernel_rfl
theorem Try.cgI : Try.prog.cellsOf 3 = 1 := by kernel_rfl
theorem Try.cgS : Try.prog.cellsOf 9 = 1 := by kernel_rfl
set_option maxRecDepth 100000 in
theorem config_arg13 (v : Value) (w : World) (h : Arg Try.prog w 25 v) : ∃ (n0 n1 : ByteArray) (cm st c4 c5 ck c7 c8 c9 c10 c11 c12 l0 l1 l2 l3 l4 : Int), n0.size ≤ maxLen ∧ n1.size ≤ maxLen ∧ v = .agg #[.string n0, .string n1, .int .i64 cm, .int .i64 st, .int .i64 c4, .int .i64 c5, .int .i64 ck, .int .i64 c7, .int .i64 c8, .int .i64 c9, .int .i64 c10, .int .i64 c11, .int .i64 c12, .int .i64 l0, .int .i64 l1, .int .i64 l2, .int .i64 l3, .int .i64 l4] := by
  obtain ⟨cs, rfl, hr⟩ := h.struct Try.underlying25
  obtain ⟨hl, hf⟩ := hr.struct Try.underlying25
  rw [Try.cgCf] at hl
  have f0 : Rdb Try.prog w 9 ((cs.drop 0).take (Try.prog.cellsOf 9)) := hf 0 _ rfl
  have f1 : Rdb Try.prog w 9 ((cs.drop 1).take (Try.prog.cellsOf 9)) := hf 1 _ rfl
  have f2 : Rdb Try.prog w 3 ((cs.drop 2).take (Try.prog.cellsOf 3)) := hf 2 _ rfl
  have f3 : Rdb Try.prog w 3 ((cs.drop 3).take (Try.prog.cellsOf 3)) := hf 3 _ rfl
  have f4 : Rdb Try.prog w 3 ((cs.drop 4).take (Try.prog.cellsOf 3)) := hf 4 _ rfl
  have f5 : Rdb Try.prog w 3 ((cs.drop 5).take (Try.prog.cellsOf 3)) := hf 5 _ rfl
  have f6 : Rdb Try.prog w 3 ((cs.drop 6).take (Try.prog.cellsOf 3)) := hf 6 _ rfl
  have f7 : Rdb Try.prog w 3 ((cs.drop 7).take (Try.prog.cellsOf 3)) := hf 7 _ rfl
  have f8 : Rdb Try.prog w 3 ((cs.drop 8).take (Try.prog.cellsOf 3)) := hf 8 _ rfl
  have f9 : Rdb Try.prog w 3 ((cs.drop 9).take (Try.prog.cellsOf 3)) := hf 9 _ rfl
  have f10 : Rdb Try.prog w 3 ((cs.drop 10).take (Try.prog.cellsOf 3)) := hf 10 _ rfl
  have f11 : Rdb Try.prog w 3 ((cs.drop 11).take (Try.prog.cellsOf 3)) := hf 11 _ rfl
  have f12 : Rdb Try.prog w 3 ((cs.drop 12).take (Try.prog.cellsOf 3)) := hf 12 _ rfl
  have fl : Rdb Try.prog w 23 ((cs.drop 13).take (Try.prog.cellsOf 23)) := hf 13 _ rfl
  rw [Try.cgS] at f0 f1
  rw [Try.cgI] at f2 f3 f4 f5 f6 f7 f8 f9 f10 f11 f12
  rw [Try.cgLm] at fl
  match cs, hl with
  | [x0, x1, x2, x3, x4, x5, x6, x7, x8, x9, x10, x11, x12, x13, x14, x15, x16, x17], _ =>
    simp only [List.drop_succ_cons, List.drop_zero, List.take_succ_cons, List.take_zero] at fl
    obtain ⟨-, hg⟩ := fl.struct Try.underlying23
    have f13 : Rdb Try.prog w 3 (([x13, x14, x15, x16, x17].drop 0).take (Try.prog.cellsOf 3)) := hg 0 _ rfl
    have f14 : Rdb Try.prog w 3 (([x13, x14, x15, x16, x17].drop 1).take (Try.prog.cellsOf 3)) := hg 1 _ rfl
    have f15 : Rdb Try.prog w 3 (([x13, x14, x15, x16, x17].drop 2).take (Try.prog.cellsOf 3)) := hg 2 _ rfl
    have f16 : Rdb Try.prog w 3 (([x13, x14, x15, x16, x17].drop 3).take (Try.prog.cellsOf 3)) := hg 3 _ rfl
    have f17 : Rdb Try.prog w 3 (([x13, x14, x15, x16, x17].drop 4).take (Try.prog.cellsOf 3)) := hg 4 _ rfl
    rw [Try.cgI] at f13 f14 f15 f16 f17
    obtain ⟨y0, k0, z0⟩ := f0.str Try.underlying9
    obtain ⟨y1, k1, z1⟩ := f1.str Try.underlying9
    obtain ⟨y2, k2, -⟩ := f2.int Try.underlying3
    obtain ⟨y3, k3, -⟩ := f3.int Try.underlying3
    obtain ⟨y4, k4, -⟩ := f4.int Try.underlying3
    obtain ⟨y5, k5, -⟩ := f5.int Try.underlying3
    obtain ⟨y6, k6, -⟩ := f6.int Try.underlying3
    obtain ⟨y7, k7, -⟩ := f7.int Try.underlying3
    obtain ⟨y8, k8, -⟩ := f8.int Try.underlying3
    obtain ⟨y9, k9, -⟩ := f9.int Try.underlying3
    obtain ⟨y10, k10, -⟩ := f10.int Try.underlying3
    obtain ⟨y11, k11, -⟩ := f11.int Try.underlying3
    obtain ⟨y12, k12, -⟩ := f12.int Try.underlying3
    obtain ⟨y13, k13, -⟩ := f13.int Try.underlying3
    obtain ⟨y14, k14, -⟩ := f14.int Try.underlying3
    obtain ⟨y15, k15, -⟩ := f15.int Try.underlying3
    obtain ⟨y16, k16, -⟩ := f16.int Try.underlying3
    obtain ⟨y17, k17, -⟩ := f17.int Try.underlying3
    simp at k0 k1 k2 k3 k4 k5 k6 k7 k8 k9 k10 k11 k12 k13 k14 k15 k16 k17
    exact ⟨y0, y1, y2, y3, y4, y5, y6, y7, y8, y9, y10, y11, y12, y13, y14, y15, y16, y17, z0, z1, by rw [k0, k1, k2, k3, k4, k5, k6, k7, k8, k9, k10, k11, k12, k13, k14, k15, k16, k17]⟩
theorem cfright_arg (v0 : Value) (w : World) (h0 : Arg Try.prog w 25 v0) :
    Calls Try.prog 3 #[v0] w fun e w' => e = .returned (.bool true) ∧ Below w.heap.size w w' := by
  obtain ⟨n0, n1, a0, a1, a2, a3, a4, a5, a6, a7, a8, a9, a10, a11, a12, a13, a14, a15, hz0, hz1, rfl⟩ := config_arg13 v0 w h0
  exact cfright_walk n0 n1 a0 a1 a2 a3 a4 a5 a6 a7 a8 a9 a10 a11 a12 a13 a14 a15 w hz0 hz1
end Go.Proofs.Ytlnbjeblmjkhoaa
