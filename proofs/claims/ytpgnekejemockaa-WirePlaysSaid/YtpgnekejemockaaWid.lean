/- A peer and a link: moved, Read, Grant (layer 42). Made by bin/mkwid.py. -/
import Derived.Test.YtpgnekejemockaaWic
import Derived.Test.YtpgnekejemockaaLkb
namespace Go.Proofs.Ytpgnekejemockaa
open Go.RowKit
set_option linter.unusedVariables false
set_option linter.unusedSimpArgs false

theorem WR.alloc {A : Nat → Prop} {b rd : Nat} {en : Bool} {s1 s2 : ByteArray} {w : World} (h : WR A b rd en s1 s2 w) (o : Obj) : WR A b rd en s1 s2 (w.alloc o) := h.below ((Below.refl _ w).alloc (Nat.le_refl _) o)
theorem LK.allocW {F : Nat → Prop} {b qb qg M : Nat} {S O : List UInt8} {e0 e1 : Bool} {w : World} (h : LK F b qb qg M S O e0 e1 w) (o : Obj) : LK F b qb qg M S O e0 e1 (w.alloc o) := h.below ((Below.refl _ w).alloc (Nat.le_refl _) o)
theorem LK.kpt {A F : Nat → Prop} {b qb qg M : Nat} {S O : List UInt8} {e0 e1 : Bool} {w w' : World} (h : LK F b qb qg M S O e0 e1 w) (hk : Kpt (fun k => ¬ A k) w w') (hA : ∀ k, A k → F k) : LK F b qb qg M S O e0 e1 w' :=
  h.other fun k h1 h2 => hk.block k h1 (fun h3 => h2 (hA k h3))
theorem WR.kpt {A F : Nat → Prop} {b rd : Nat} {en : Bool} {s1 s2 : ByteArray} {w w' : World} (h : WR A b rd en s1 s2 w) (hk : Kpt F w w') (hA : ∀ k, A k → F k) : WR A b rd en s1 s2 w' :=
  h.kept fun k h1 h2 => hk.block k h1 (hA k h2)
theorem callF_wread (args : Array Value) (w : World) : (callFunc 87 args).run Try.prog w = .ok (.enter 87 args) w := by kernel_rfl
theorem callF_wgrant (args : Array Value) (w : World) : (callFunc 92 args).run Try.prog w = .ok (.enter 92 args) w := by kernel_rfl
set_option maxRecDepth 100000 in
theorem wmoved (fn : FuncId) (x y : Value) (n t : Int) (R : Int → World → Prop) (w : World) (hG : ∀ (args : Array Value) (w : World), (callFunc fn args).run Try.prog w = .ok (.enter fn args) w)
    (h0 : min n t < 1 → R 0 w) (h1 : ¬ min n t < 1 → Calls Try.prog fn #[.int .i64 (min n t), x, y] w fun e w' => ∃ i : Int, e = .returned (.int .i64 i) ∧ R i w') :
    Calls Try.prog 86 #[.int .i64 n, .int .i64 t, .func (.func fn) #[] #[x, y]] w fun e w' => ∃ i : Int, e = .returned (.int .i64 i) ∧ R i w' := by
  have H0 := Kp.mk h0
  have H1 := Kp.mk h1
  clear h0 h1
  by_cases hm : min n t < 1
  · go_enter Try.func86, Try.ntmps86
    go_wp2_with fail
    go_ret
    exact ⟨0, rfl, H0.out hm⟩
  · have HM := Kp.mk hm
    go_enter Try.func86, Try.ntmps86
    go_wp2_with fail
    refine (H1.out HM.out).mono ?_
    rintro e w1 ⟨i, rfl, h2⟩
    have H2 := Kp.mk h2
    clear h2
    go_wp2_with fail
    go_ret
    exact ⟨i, rfl, H2.out⟩
/-- A box. -/
structure Bxp (x b : Nat) (t : TypeId) (w : World) : Prop where
  blk : w.heap[x]? = some (.cells #[.pointer (some ⟨b, 0, none⟩)] t (0, 0))
theorem Bxp.cell {x b : Nat} {t : TypeId} {w : World} (h : Bxp x b t w) : w.cell? ⟨x, 0, none⟩ = some (.pointer (some ⟨b, 0, none⟩)) := blk_cell h.blk rfl
theorem Bxp.kpt {x b : Nat} {t : TypeId} {F : Nat → Prop} {w w' : World} (h : Bxp x b t w) (hk : Kpt F w w') (hx : F x) : Bxp x b t w' := ⟨(hk.block x (blk_lt h.blk) hx).trans h.blk⟩
/-- How much a read moves. -/
def rdT (s1 : ByteArray) (rd : Nat) (m : Nat) : ByteArray := (s1.extract rd s1.size).extract 0 m
structure RdTo (A F : Nat → Prop) (b rd : Nat) (en : Bool) (s1 s2 : ByteArray) (kb qb qg M : Nat) (S O : List UInt8) (e0 e1 : Bool) (w w' : World) : Prop where
  wr : WR A b rd en s1 s2 w'
  lk : LK F kb qb qg M S O e0 e1 w'
  kp : Kpt (fun k => F k ∧ ¬ A k) w w'
set_option maxRecDepth 100000 in
theorem wread1 (A F : Nat → Prop) (b rd : Nat) (en : Bool) (s1 s2 : ByteArray) (kb qb qg M : Nat) (S O : List UInt8) (e0 e1 : Bool) (x y t1 t2 m : Nat) (w : World) (h : WR A b rd en s1 s2 w) (hk : LK F kb qb qg M S O e0 e1 w) (hAF : ∀ k, A k → F k)
    (bx : Bxp x kb t1 w) (by_ : Bxp y b t2 w) (hx : F x ∧ ¬ A x) (hy : F y ∧ ¬ A y) (hr : rd ≤ s1.size) (hs : s1.size ≤ 100000) (hm : m ≤ s1.size - rd) :
    Calls Try.prog 87 #[.int .i64 (m : Int), .pointer (some ⟨x, 0, none⟩), .pointer (some ⟨y, 0, none⟩)] w fun e w' =>
      e = .returned (.int .i64 (giveN e0 e1 M S (rdT s1 rd m) : Nat)) ∧ RdTo A F b rd en s1 s2 kb qb qg M (S ++ (rdT s1 rd m).data.toList.take (giveN e0 e1 M S (rdT s1 rd m))) O e0 e1 w w' := by
  have H := Kp.mk h
  have HK := Kp.mk hk
  have HX := Kp.mk bx
  have HY := Kp.mk by_
  have HAF := Kp.mk hAF
  have HFX := Kp.mk hx
  have HFY := Kp.mk hy
  have cx := bx.cell
  have cy := by_.cell
  have HZ := Kp.mk (show (s1.extract rd s1.size).size = s1.size - rd by simp)
  have HTZ := Kp.mk (show (rdT s1 rd m).size ≤ 1000000 by unfold rdT; simp; omega)
  have q1 : (m : Int) ≤ ((s1.extract rd s1.size).size : Int) := by have := HZ.out; omega
  have q2 : ((s1.extract rd s1.size).size : Int) ≤ 100000 := by have := HZ.out; omega
  have HLE := Kp.mk (wleft A b rd en s1 s2 (w.drewN 1) (h.drewN 1) hr (by omega))
  clear h hk bx by_ hAF hx hy
  generalize hu : s1.extract rd s1.size = u at *
  have HT := Kp.mk (show u.extract 0 m = rdT s1 rd m by rw [← hu]; rfl)
  clear hu hr hs hm
  go_enter Try.func87, Try.ntmps87
  go_wp2_with fail
  go_region_with (first
    | (go_at_call 67; refine HLE.out.mono ?_; rintro e w2 ⟨rfl, h2, hk2⟩; have H2 := Kp.mk h2; have HK2 := Kp.mk ((Kpt.of (gdrewN w 1)).trans hk2); have cx2 := ((HX.out).kpt HK2.out HFX.out.2).cell; have HL2 := Kp.mk (HK.out.kpt HK2.out HAF.out); clear h2 hk2)
    | (go_at_call 88; rw [HT.out]; refine (lk_give F kb qb qg M S O e0 e1 _ _ HL2.out HTZ.out).mono ?_; rintro e w3 ⟨rfl, h3, hk3⟩; have H3 := Kp.mk h3; have HK3 := Kp.mk hk3; clear h3 hk3))
  all_goals
    go_wp2_with fail
    go_ret
    exact ⟨rfl, H2.out.kpt HK3.out HAF.out, H3.out, (HK2.out.mono fun k hk => hk.2).trans (HK3.out.mono fun k hk => hk.1)⟩
end Go.Proofs.Ytpgnekejemockaa
