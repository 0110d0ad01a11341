/- Layer 42: a peer, a link and the document's, beside a box: what each call leaves of them. Made by bin/mkwij.py. -/
import Derived.Test.YtpgnekejemockaaWih
namespace Go.Proofs.Ytpgnekejemockaa
open Go.RowKit
set_option linter.unusedVariables false
set_option linter.unusedSimpArgs false

structure Wst where
  s1 : ByteArray
  s2 : ByteArray
  rd : Nat
  en : Bool
  S : List UInt8
  O : List UInt8
  e0 : Bool
  e1 : Bool
/-- What the document's peer holds. -/
def Wst.ld (b kb : Nat) (x : Wst) : Ld := ⟨.pointer (some ⟨b, 0, none⟩), .pointer (some ⟨kb, 0, none⟩), x.s1.extract x.rd x.s1.size, (x.s1.size : Int), x.en, x.s2⟩
/-- The program's state x, the document's y, a box. -/
structure WA (F0 A : Nat → Prop) (b kb qb qg c bx M : Nat) (x y : Wst) (cells : Array Value) (t : TypeId) (W w : World) : Prop where
  wr : WR A b x.rd x.en x.s1 x.s2 w
  al : ∀ k, A k → k < w.heap.size
  an : ∀ k, A k → ¬ F0 k
  lk : LK (fun k => F0 k ∨ A k) kb qb qg M x.S x.O x.e0 x.e1 w
  ry : RY c (y.ld b kb) M y.S y.O y.e0 y.e1 w
  fc : F0 c
  fbx : F0 bx
  cb : c ≠ bx
  fl : ∀ k, F0 k → k < w.heap.size
  box : w.heap[bx]? = some (.cells cells t (0, 0))
  kpt : Kpt (fun k => F0 k ∧ k ≠ c) W w
theorem WA.fa {F0 A : Nat → Prop} {b kb qb qg c bx M : Nat} {x y : Wst} {cells : Array Value} {t : TypeId} {W w : World} (h : WA F0 A b kb qb qg c bx M x y cells t W w) : ∀ k, (F0 k ∨ A k) → k < w.heap.size := fun k hk => hk.elim (h.fl k) (h.al k)
/-- The link alone. -/
theorem WA.onl {F0 A : Nat → Prop} {b kb qb qg c bx M : Nat} {x y : Wst} {cells : Array Value} {t : TypeId} {W w w2 : World} (h : WA F0 A b kb qb qg c bx M x y cells t W w) {S O : List UInt8} {e0 e1 : Bool}
    (hk : LK (fun k => F0 k ∨ A k) kb qb qg M S O e0 e1 w2) (hK : Kpt (fun k => F0 k ∨ A k) w w2) : WA F0 A b kb qb qg c bx M { x with S := S, O := O, e0 := e0, e1 := e1 } y cells t W w2 :=
  ⟨h.wr.kpt hK fun k hk => .inr hk, fun k hk => Nat.lt_of_lt_of_le (h.al k hk) hK.size, h.an, hk, h.ry.kept (hK.block c (blk_lt h.ry.blk) (.inl h.fc)), h.fc, h.fbx, h.cb, fun k hk => Nat.lt_of_lt_of_le (h.fl k hk) hK.size,
    (hK.block bx (blk_lt h.box) (.inl h.fbx)).trans h.box, h.kpt.trans (hK.mono fun k hk => .inl hk.1)⟩
/-- The document's alone. -/
theorem WA.ond {F0 A : Nat → Prop} {b kb qb qg c bx M : Nat} {x y y2 : Wst} {cells : Array Value} {t : TypeId} {W w w2 : World} (h : WA F0 A b kb qb qg c bx M x y cells t W w)
    (hr : RYTo c (y2.ld b kb) M y2.S y2.O y2.e0 y2.e1 w w2) : WA F0 A b kb qb qg c bx M x y2 cells t W w2 := by
  obtain ⟨h1, h2⟩ := hr
  have hne : ∀ k, k < w.heap.size → k ≠ c → w2.heap[k]? = w.heap[k]? := fun k hk hc => h2.block k hk hc (by simp)
  refine ⟨h.wr.kept fun k hk ha => hne k hk (fun e => h.an k ha (e ▸ h.fc)), fun k hk => Nat.lt_of_lt_of_le (h.al k hk) h2.size, h.an, h.lk.other fun k hk hF => hne k hk (fun e => hF (.inl (e ▸ h.fc))), h1, h.fc, h.fbx, h.cb, fun k hk => Nat.lt_of_lt_of_le (h.fl k hk) h2.size,
    (hne bx (blk_lt h.box) h.cb.symm).trans h.box, h.kpt.trans ⟨h2.os, h2.tape, h2.output, h2.size, fun k hk hF => hne k hk hF.2⟩⟩
/-- The peer alone, its blocks the same. -/
theorem WA.onw {F0 A : Nat → Prop} {b kb qb qg c bx M : Nat} {x y : Wst} {cells : Array Value} {t : TypeId} {W w w2 : World} (h : WA F0 A b kb qb qg c bx M x y cells t W w) {rd : Nat} {en : Bool} (hw : WK A b rd en x.s1 x.s2 w w2) :
    WA F0 A b kb qb qg c bx M { x with rd := rd, en := en } y cells t W w2 :=
  ⟨hw.1, fun k hk => Nat.lt_of_lt_of_le (h.al k hk) hw.2.size, h.an, h.lk.kpt hw.2 fun k hk => .inr hk, h.ry.kept (hw.2.block c (blk_lt h.ry.blk) (fun ha => h.an c ha h.fc)), h.fc, h.fbx, h.cb, fun k hk => Nat.lt_of_lt_of_le (h.fl k hk) hw.2.size,
    (hw.2.block bx (blk_lt h.box) (fun ha => h.an bx ha h.fbx)).trans h.box, h.kpt.trans (hw.2.mono fun k hk ha => h.an k ha hk.1)⟩
/-- A read. -/
theorem WA.onr {F0 A : Nat → Prop} {b kb qb qg c bx M : Nat} {x y : Wst} {cells : Array Value} {t : TypeId} {W w w2 : World} (h : WA F0 A b kb qb qg c bx M x y cells t W w) {rd : Nat} {S O : List UInt8} {e0 e1 : Bool}
    (hr : RdTo A (fun k => F0 k ∨ A k) b rd x.en x.s1 x.s2 kb qb qg M S O e0 e1 w w2) : WA F0 A b kb qb qg c bx M { x with rd := rd, S := S, O := O, e0 := e0, e1 := e1 } y cells t W w2 :=
  ⟨hr.wr, fun k hk => Nat.lt_of_lt_of_le (h.al k hk) hr.kp.size, h.an, hr.lk, h.ry.kept (hr.kp.block c (blk_lt h.ry.blk) ⟨.inl h.fc, fun ha => h.an c ha h.fc⟩), h.fc, h.fbx, h.cb, fun k hk => Nat.lt_of_lt_of_le (h.fl k hk) hr.kp.size,
    (hr.kp.block bx (blk_lt h.box) ⟨.inl h.fbx, fun ha => h.an bx ha h.fbx⟩).trans h.box, h.kpt.trans (hr.kp.mono fun k hk => ⟨.inl hk.1, fun ha => h.an k ha hk.1⟩)⟩
/-- What the peer sent or took grew: its blocks may be others. -/
theorem WA.ong {F0 A : Nat → Prop} {b kb qb qg c bx M : Nat} {x y : Wst} {cells : Array Value} {t : TypeId} {W w w2 : World} (h : WA F0 A b kb qb qg c bx M x y cells t W w) {s1 s2 : ByteArray} {S O : List UInt8} {e0 e1 : Bool}
    (hr : GrTo A (fun k => F0 k ∨ A k) b x.rd x.en s1 s2 kb qb qg M S O e0 e1 w w2) : ∃ A', WA F0 A' b kb qb qg c bx M { x with s1 := s1, s2 := s2, S := S, O := O, e0 := e0, e1 := e1 } y cells t W w2 := by
  obtain ⟨⟨A', g1, g2, g3, g4⟩, hkp⟩ := hr
  refine ⟨A', g1, g2, fun k hk hf => ?_, g4.mono fun k hk => hk.elim (fun h => .inl (.inl h)) .inr, h.ry.kept (hkp.block c (blk_lt h.ry.blk) ⟨.inl h.fc, fun ha => h.an c ha h.fc⟩), h.fc, h.fbx, h.cb, fun k hk => Nat.lt_of_lt_of_le (h.fl k hk) hkp.size,
    (hkp.block bx (blk_lt h.box) ⟨.inl h.fbx, fun ha => h.an bx ha h.fbx⟩).trans h.box, h.kpt.trans (hkp.mono fun k hk => ⟨.inl hk.1, fun ha => h.an k ha hk.1⟩)⟩
  rcases g3 k hk with h2 | h2
  · exact h.an k h2 hf
  · have := h.fl k hf; omega
/-- .. what a Send leaves is of that kind. -/
theorem WTo.gr {F A : Nat → Prop} {b rd : Nat} {en : Bool} {s1 s2 : ByteArray} {kb qb qg M : Nat} {S O : List UInt8} {e0 e1 : Bool} {w w' : World} (hk : LK F kb qb qg M S O e0 e1 w) (hA : ∀ k, A k → F k) (hw : WTo A b rd en s1 s2 w w') : GrTo A F b rd en s1 s2 kb qb qg M S O e0 e1 w w' := by
  obtain ⟨A', g1, g2, g3, g4, g5⟩ := hk.wto hA hw
  exact ⟨⟨A', g1, g2, g3, g4⟩, g5⟩
theorem WA.below {F0 A : Nat → Prop} {b kb qb qg c bx M : Nat} {x y : Wst} {cells : Array Value} {t : TypeId} {W w w2 : World} (h : WA F0 A b kb qb qg c bx M x y cells t W w) (hb : Below w.heap.size w w2) : WA F0 A b kb qb qg c bx M x y cells t W w2 :=
  h.onl (h.lk.below hb) (Kpt.of hb)
theorem WA.drewN {F0 A : Nat → Prop} {b kb qb qg c bx M : Nat} {x y : Wst} {cells : Array Value} {t : TypeId} {W w : World} (h : WA F0 A b kb qb qg c bx M x y cells t W w) (n : Nat) : WA F0 A b kb qb qg c bx M x y cells t W (w.drewN n) := h.below (gdrewN w n)
end Go.Proofs.Ytpgnekejemockaa
