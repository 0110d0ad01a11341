/- Octets that wait: the law QueueOrder (layer 3). -/
import Derived.Test.YtpgnekejemockaaQue
import Derived.Deep.DeepCutAuto
namespace Go.Proofs.Ytpgnekejemockaa
open Go.RowKit
set_option linter.unusedVariables false
set_option linter.unusedSimpArgs false

/-- A call: what it does, how many, which text. -/
abbrev QA := Int × Int × ByteArray
def qactC (p : QA) : List Value := [.int .i64 p.1, .int .i64 p.2.1, .string p.2.2]
theorem qact_cells {w : World} {a : Option Addr} {c n : Nat} {l : List QA} (h : RdL qactC 3 w (.slice a n c) l) (h0 : 0 < l.length) : ∃ b o, a = some ⟨b, o, none⟩ ∧ b < w.heap.size ∧ ∀ (j : Nat) (h : j < l.length), w.cell? ⟨b, o + j * 3, none⟩ = some (.int .i64 l[j].1) ∧ w.cell? ⟨b, o + j * 3 + 1, none⟩ = some (.int .i64 l[j].2.1) ∧ w.cell? ⟨b, o + j * 3 + 2, none⟩ = some (.string l[j].2.2) := by
  obtain ⟨a', c', h1, h2, h3, h4⟩ := h
  cases h1
  obtain ⟨b, o, g1, g2, g3⟩ := h4 h0
  exact ⟨b, o, g1, g2, fun j hj => ⟨by have := g3 j hj 0 (by omega); simpa [qactC] using this, by have := g3 j hj 1 (by omega); simpa [qactC] using this, by have := g3 j hj 2 (by omega); simpa [qactC] using this⟩⟩
def QFew (ps : List QA) (w : World) (e : Ending) (w' : World) : Prop := ∃ ok : Bool, e = .returned (.bool ok) ∧ Below w.heap.size w w' ∧ (ok = true → ps.length ≤ 60 ∧ ∀ p ∈ ps, p.2.2.size ≤ 300)
def QMid (w : World) (B most lim : Nat) (pv tv : Value) (wx : World) : Prop := ∃ (P T : ByteArray) (S : List UInt8), pv = .string P ∧ tv = .string T ∧ P.data.toList = T.data.toList ++ S ∧ P.size ≤ lim ∧ QS (B + 1) B most S wx ∧ Below w.heap.size w wx
theorem ee_emp : ((⟨#[]⟩ : ByteArray) ++ ⟨#[]⟩) = ⟨#[]⟩ := by rfl
theorem qact_of {P : Program} {w : World} {t ti ts : TypeId} {fs : Array Field} {E : List Value} (ht : P.underlying t = some (.struct fs)) (hi : P.underlying ti = some (.int .i64)) (hs : P.underlying ts = some .string) (hc : P.cellsOf t = 3) (hci : P.cellsOf ti = 1) (hcs : P.cellsOf ts = 1)
    (h0 : ∃ f, fs[0]? = some f ∧ f.type = ti ∧ f.offset = 0) (h1 : ∃ f, fs[1]? = some f ∧ f.type = ti ∧ f.offset = 1) (h2 : ∃ f, fs[2]? = some f ∧ f.type = ts ∧ f.offset = 2) (h : Rdb P w t E) :
    ∃ p : QA, E = qactC p ∧ ((Lit.int .i64 p.1).wf = true ∧ (Lit.int .i64 p.2.1).wf = true ∧ p.2.2.size ≤ maxLen) := by
  obtain ⟨hl, hf⟩ := h.struct ht
  obtain ⟨f0, e0, t0, o0⟩ := h0
  obtain ⟨f1, e1, t1, o1⟩ := h1
  obtain ⟨f2, e2, t2, o2⟩ := h2
  have g0 := hf 0 f0 e0
  have g1 := hf 1 f1 e1
  have g2 := hf 2 f2 e2
  rw [t0, o0, hci] at g0
  rw [t1, o1, hci] at g1
  rw [t2, o2, hcs] at g2
  obtain ⟨s0, k0, z0⟩ := g0.int hi
  obtain ⟨s1, k1, z1⟩ := g1.int hi
  obtain ⟨s2, k2, z2⟩ := g2.str hs
  rw [hc] at hl
  match E, hl with
  | [x, y, z], _ =>
    simp at k0 k1 k2
    exact ⟨(s0, s1, s2), by simp [qactC, k0, k1, k2], z0, z1, z2⟩
theorem Try.fcellsQI : Try.prog.cellsOf 3 = 1 := by kernel_rfl
theorem Try.fcellsQS : Try.prog.cellsOf 9 = 1 := by kernel_rfl
end Go.Proofs.Ytpgnekejemockaa
