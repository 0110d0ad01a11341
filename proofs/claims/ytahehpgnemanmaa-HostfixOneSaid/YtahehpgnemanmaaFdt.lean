/- Fields that came in: a field, a list of them. -/
import Derived.Test.YtahehpgnemanmaaGb
import Derived.Test.YtahehpgnemanmaaProg
namespace Go.Proofs.Ytahehpgnemanmaa
open Go.RowKit
set_option linter.unusedVariables false
set_option linter.unusedSimpArgs false

/-- A field: its name, its value. -/
abbrev Fld := ByteArray × ByteArray
def fldC (p : Fld) : List Value := [.string p.1, .string p.2]
abbrev RdF (w : World) (v : Value) (l : List Fld) : Prop := RdL fldC 2 w v l
def FldOk (p : Fld) : Prop := p.1.size ≤ maxLen ∧ p.2.size ≤ maxLen
theorem fld_of {P : Program} {w : World} {t ts : TypeId} {fs : Array Field} {E : List Value} (ht : P.underlying t = some (.struct fs)) (hs : P.underlying ts = some .string) (hc : P.cellsOf t = 2) (hc1 : P.cellsOf ts = 1)
    (h0 : ∃ f, fs[0]? = some f ∧ f.type = ts ∧ f.offset = 0) (h1 : ∃ f, fs[1]? = some f ∧ f.type = ts ∧ f.offset = 1) (h : Rdb P w t E) : ∃ p : Fld, E = fldC p ∧ FldOk p := by
  obtain ⟨hl, hf⟩ := h.struct ht
  obtain ⟨f0, e0, t0, o0⟩ := h0
  obtain ⟨f1, e1, t1, o1⟩ := h1
  have g0 := hf 0 f0 e0
  have g1 := hf 1 f1 e1
  rw [t0, o0, hc1] at g0
  rw [t1, o1, hc1] at g1
  obtain ⟨s0, k0, z0⟩ := g0.str hs
  obtain ⟨s1, k1, z1⟩ := g1.str hs
  rw [hc] at hl
  match E, hl with
  | [x, y], _ =>
    simp at k0 k1
    exact ⟨(s0, s1), by simp [fldC, k0, k1], z0, z1⟩
theorem Try.fcellsFld : Try.prog.cellsOf 61 = 2 := by kernel_rfl
theorem Try.fcellsFs : Try.prog.cellsOf 9 = 1 := by kernel_rfl
theorem fld_arg (v1 : Value) (w : World) (h1 : Arg Try.prog w 61 v1) : ∃ n v : ByteArray, v1 = .agg #[.string n, .string v] ∧ n.size ≤ maxLen ∧ v.size ≤ maxLen := by
  obtain ⟨cs, rfl, hr⟩ := h1.struct Try.underlying61
  obtain ⟨p, rfl, hp⟩ := fld_of Try.underlying61 Try.underlying9 Try.fcellsFld Try.fcellsFs ⟨_, rfl, rfl, rfl⟩ ⟨_, rfl, rfl, rfl⟩ hr
  exact ⟨p.1, p.2, rfl, hp.1, hp.2⟩
end Go.Proofs.Ytahehpgnemanmaa
