/- What is said to caches (layer 21): the law CacheParses. -/
import Derived.Test.YtahehpgnemanmaaCck
import Derived.Test.YtahehpgnemanmaaCce
import Derived.Test.YtahehpgnemanmaaCcg
import Derived.Deep.DeepCutAuto
namespace Go.Proofs.Ytahehpgnemanmaa
open Go.RowKit
set_option linter.unusedVariables false
set_option linter.unusedSimpArgs false

def DirOk (d : Dir) : Prop := d.1.size ≤ maxLen ∧ d.2.1.size ≤ maxLen
theorem dir_of {P : Program} {w : World} {t ts tb : TypeId} {fs : Array Field} {E : List Value} (ht : P.underlying t = some (.struct fs)) (hs : P.underlying ts = some .string) (hb : P.underlying tb = some .bool) (hc : P.cellsOf t = 3) (hc1 : P.cellsOf ts = 1) (hc2 : P.cellsOf tb = 1)
    (h0 : ∃ f, fs[0]? = some f ∧ f.type = ts ∧ f.offset = 0) (h1 : ∃ f, fs[1]? = some f ∧ f.type = ts ∧ f.offset = 1) (h2 : ∃ f, fs[2]? = some f ∧ f.type = tb ∧ f.offset = 2) (h : Rdb P w t E) : ∃ d : Dir, E = dirC d ∧ DirOk d := by
  obtain ⟨hl, hf⟩ := h.struct ht
  obtain ⟨f0, e0, t0, o0⟩ := h0
  obtain ⟨f1, e1, t1, o1⟩ := h1
  obtain ⟨f2, e2, t2, o2⟩ := h2
  have g0 := hf 0 f0 e0
  have g1 := hf 1 f1 e1
  have g2 := hf 2 f2 e2
  rw [t0, o0, hc1] at g0
  rw [t1, o1, hc1] at g1
  rw [t2, o2, hc2] at g2
  obtain ⟨s0, k0, z0⟩ := g0.str hs
  obtain ⟨s1, k1, z1⟩ := g1.str hs
  obtain ⟨b2, k2⟩ := g2.bool hb
  rw [hc] at hl
  match E, hl with
  | [x, y, z], _ =>
    simp at k0 k1 k2
    exact ⟨(s0, s1, b2), by simp [dirC, k0, k1, k2], z0, z1⟩
theorem Try.fcellsDi : Try.prog.cellsOf 74 = 3 := by kernel_rfl
theorem Try.fcellsBo : Try.prog.cellsOf 4 = 1 := by kernel_rfl
theorem dlist_arg (v : Value) (w : World) (h : Arg Try.prog w 46 v) : ∃ l, RdD w v l ∧ ∀ d ∈ l, DirOk d :=
  h.list (f := dirC) (Q := DirOk) Try.underlying46 Try.fcellsDi (by omega) fun E hE =>
    dir_of Try.underlying74 Try.underlying9 Try.underlying4 Try.fcellsDi Try.fcellsFs Try.fcellsBo ⟨_, rfl, rfl, rfl⟩ ⟨_, rfl, rfl, rfl⟩ ⟨_, rfl, rfl, rfl⟩ hE
theorem ext1000 (s : ByteArray) : (s.extract 0 1000).size ≤ 1000 := by rw [ByteArray.size_extract]; omega
def dSmB (d : Dir) : Prop := d.1.size ≤ 100 ∧ d.2.1.size ≤ 100
theorem bb_same (b : Bool) : (b == b) = true := by cases b <;> rfl
end Go.Proofs.Ytahehpgnemanmaa
