/- Steps (layer 44): which one is a Send; what must be one. -/
import Derived.Test.YtgogoncpnfojkaaGb
import Derived.Test.YtgogoncpnfojkaaProg
import Derived.Defers
import Derived.Recover
import Derived.Laws.Pointers
namespace Go.Proofs.Ytgogoncpnfojkaa
open Go.RowKit
set_option linter.unusedVariables false
set_option linter.unusedSimpArgs false

def snC (c o : Int) (t : ByteArray) : Array Value := #[.int .i64 c, .int .i64 o, .string t]
theorem bodyPost_panic6 {P : Program} {f : Func} {Q : Ending → World → Prop} {ch : List PanicEntry} {a : Act} {w : World} (h : Q (.panicked ch) w) (hd : a.defers = []) : bodyPost P f Q (.panic ch) a w := by
  first
    | exact ⟨hd, h⟩
    | (simp [bodyPost, hd]; exact h)
    | (simp [bodyPost]; exact h)
theorem Try.taT : Try.prog.rt.typeAssertionError = 15 := by kernel_rfl
theorem Try.taE (w : World) : (elemOf 15).run Try.prog w = .ok 258 w := by kernel_rfl
theorem rp_ta (i c : Option TypeId) (a : TypeId) (m : String) (w : World) : ∃ o, (runtimePanic (α := Value) (.typeAssertion i c a m)).run Try.prog w = .halt (.panic (.iface 15 (.pointer (some ⟨w.heap.size, 0, none⟩)))) (w.alloc o) := by
  refine ⟨.cells #[match i with | some t => typeHandle Try.prog t | none => .pointer none, match c with | some t => typeHandle Try.prog t | none => .pointer none, typeHandle Try.prog a, strVal m] 258, ?_⟩
  simp [runtimePanic, go_sem, Try.taT, Try.taE, newVar]
  cases i <;> cases c <;> rfl
theorem ta_no (T : TypeId) (v : Value) (w : World) (hT : ¬ T = 93) : (Instr.typeAssert (.iface T v) 89 93 false).run Try.prog w = (runtimePanic (α := Value) (.typeAssertion (some 89) (some T) 93 "")).run Try.prog w := by
  simp [Instr.typeAssert, run_underlying Try.underlying93, hT]
theorem ta_nil (w : World) : (Instr.typeAssert .nilIface 89 93 false).run Try.prog w = (runtimePanic (α := Value) (.typeAssertion (some 89) none 93 "")).run Try.prog w := by
  simp [Instr.typeAssert, run_underlying Try.underlying93]
theorem ta_send (v : Value) (w : World) : (Instr.typeAssert (.iface 93 v) 89 93 false).run Try.prog w = .ok v w := by
  simp [Instr.typeAssert, run_underlying Try.underlying93]
set_option maxRecDepth 100000 in
set_option maxHeartbeats 1000000 in
theorem must_send (c o : Int) (t : ByteArray) (w : World) : Calls Try.prog 55 #[.iface 93 (.agg #[.int .i64 c, .int .i64 o, .string t])] w fun e w' => e = .returned (.agg #[.int .i64 c, .int .i64 o, .string t]) ∧ Below w.heap.size w w' := by
  have k1 := heap_alloc_new w (.cells #[.int .i64 c, .int .i64 o, .string t] 93)
  have z0 := blk_cell (i := 0) k1 rfl
  have z1 := blk_cell (i := 1) k1 rfl
  have z2 := blk_cell (i := 2) k1 rfl
  have hta := fun w => ta_send (.agg #[.int .i64 c, .int .i64 o, .string t]) w
  go_enter Try.func55, Try.ntmps55
  go_wp2_with fail
  exact bodyPost_ret (v := .agg #[.int .i64 c, .int .i64 o, .string t]) (by simp [results, Try.results55, go_sem, z0, z1, z2]) rfl ⟨rfl, (Below.refl _ _).alloc (Nat.le_refl _) _⟩
def PanN (w : World) (e : Ending) (w' : World) : Prop := ∃ u pv, e = .panicked [{ v := .iface u pv, recovered := false }] ∧ Below w.heap.size w w'
def notSend : Value → Prop
  | .nilIface => True
  | .iface T _ => ¬ T = 93
  | _ => False
theorem ta_pan (a : Value) (h : notSend a) (w : World) : ∃ o, (Instr.typeAssert a 89 93 false).run Try.prog w = .halt (.panic (.iface 15 (.pointer (some ⟨w.heap.size, 0, none⟩)))) (w.alloc o) := by
  cases a with
  | nilIface => rw [ta_nil]; exact rp_ta _ _ _ _ _
  | iface T v => rw [ta_no T v w h]; exact rp_ta _ _ _ _ _
  | _ => exact absurd h (by simp [notSend])
set_option maxRecDepth 100000 in
set_option maxHeartbeats 1000000 in
theorem must_pan (a : Value) (h : notSend a) (w : World) : Calls Try.prog 55 #[a] w (PanN w) := by
  obtain ⟨ob, hob⟩ := ta_pan a h (w.alloc (.cells #[.int .i64 0, .int .i64 0, .string ⟨#[]⟩] 93))
  go_enter Try.func55, Try.ntmps55
  go_wp2_with fail
  exact bodyPost_panic6 ⟨_, _, rfl, ((Below.refl _ _).alloc (Nat.le_refl _) _).alloc (by simp) _⟩ rfl
theorem tried_catch (b d : Nat) (x y z q : Value) (u : TypeId) (pv : Value) (older : List PanicEntry) (w : World) (h0 : w.cell? ⟨b, 0, none⟩ = some x) (h1 : w.cell? ⟨b, 1, none⟩ = some y) (h2 : w.cell? ⟨b, 2, none⟩ = some z) (h3 : w.cell? ⟨d, 0, none⟩ = some q)
    (f0 : w.frozen? ⟨b, 0, none⟩ = false) (f1 : w.frozen? ⟨b, 1, none⟩ = false) (f2 : w.frozen? ⟨b, 2, none⟩ = false) (f3 : w.frozen? ⟨d, 0, none⟩ = false) (hbd : ¬ b = d) (hdb : ¬ d = b) :
    CallsD Try.prog 102 #[.pointer (some ⟨b, 0, none⟩), .pointer (some ⟨d, 0, none⟩)] (.panicking ({ v := .iface u pv, recovered := false } :: older)) w fun e u' w' =>
      e = .returned (.tuple #[]) ∧ u' = .panicking ({ v := .iface u pv, recovered := true } :: older) ∧ w' = (((w.setCell ⟨b, 0, none⟩ (.int .i64 0)).setCell ⟨b, 1, none⟩ (.int .i64 0)).setCell ⟨b, 2, none⟩ (.string ⟨#[]⟩)).setCell ⟨d, 0, none⟩ (.bool false) := by
  refine callsD_of_wpS Try.func102 rfl fun c₀ cs hu => ?_
  apply wpS_seq
  apply wpS_region
  simp [wpOpsS, go_sem, recoverD, hu, Try.ntmps102, Exit.thenS]
  refine wpS_cond (t := true) (by simp [Act.eval, Array.replicate]) ?_
  simp only [if_true]
  apply wpS_region
  simp [wpOpsS, go_sem, h0, h1, h2, h3, f0, f1, f2, f3, hbd, hdb, bodyPostS, results, Try.results102]
theorem tried_idle (p q : Addr) (w : World) :
    CallsD Try.prog 102 #[.pointer (some p), .pointer (some q)] .returning w fun e u' w' => e = .returned (.tuple #[]) ∧ u' = .returning ∧ w' = w := by
  refine callsD_of_wpS Try.func102 rfl fun c₀ cs hu => ?_
  apply wpS_seq
  apply wpS_region
  simp [wpOpsS, go_sem, recoverD, hu, Try.ntmps102, Exit.thenS]
  refine wpS_cond (t := false) (by simp [Act.eval, Array.replicate]) ?_
  simp only [Bool.false_eq_true, if_false]
  refine wpS_of_wp (wp_skip ?_)
  cases c₀
  simp_all [bodyPostS, results, Try.results102]
def Zs : Array Value := #[.int .i64 0, .int .i64 0, .string ⟨#[]⟩]
/-- The two results' boxes. -/
structure TBx (c0 : Array Value) (b : Bool) (w W : World) : Prop where
  b1 : W.heap[w.heap.size]? = some (.cells c0 93 (0, 0))
  b2 : W.heap[w.heap.size + 1]? = some (.cells #[.bool b] 4 (0, 0))
  bel : Below w.heap.size w W
theorem TBx.new (c0 : Array Value) (b : Bool) (w : World) : TBx c0 b w ((w.alloc (.cells c0 93)).alloc (.cells #[.bool b] 4)) := by
  have k1 := heap_alloc_new (w.alloc (.cells c0 93)) (.cells #[.bool b] 4)
  rw [World.size_alloc] at k1
  exact ⟨blk_alloc (heap_alloc_new w _), k1, ((Below.refl _ _).alloc (Nat.le_refl _) _).alloc (by simp) _⟩
theorem TBx.below {c0 : Array Value} {b : Bool} {w W W' : World} (h : TBx c0 b w W) (hb : Below W.heap.size W W') : TBx c0 b w W' :=
  ⟨(hb.block _ (blk_lt h.b1)).trans h.b1, (hb.block _ (blk_lt h.b2)).trans h.b2, h.bel.trans (hb.mono h.bel.size)⟩
theorem TBx.set {x0 x1 x2 : Value} {b : Bool} {w W : World} (h : TBx #[x0, x1, x2] b w W) (y0 y1 y2 : Value) (d : Bool) : TBx #[y0, y1, y2] d w ((((W.setCell ⟨w.heap.size, 0, none⟩ y0).setCell ⟨w.heap.size, 1, none⟩ y1).setCell ⟨w.heap.size, 2, none⟩ y2).setCell ⟨w.heap.size + 1, 0, none⟩ (.bool d)) :=
  ⟨blk_set_other (blk_set (blk_set (blk_set h.b1 _) _) _) (by omega) _, blk_set (blk_set_other (blk_set_other (blk_set_other h.b2 (by omega) _) (by omega) _) (by omega) _) _,
    (((h.bel.setCell (Nat.le_refl _) _).setCell (Nat.le_refl _) _).setCell (Nat.le_refl _) _).setCell (show w.heap.size ≤ w.heap.size + 1 by omega) _⟩
set_option maxRecDepth 100000 in
set_option maxHeartbeats 2000000 in
theorem tried_send (c o : Int) (t : ByteArray) (w : World) : Calls Try.prog 52 #[.iface 93 (.agg #[.int .i64 c, .int .i64 o, .string t])] w fun e w' => e = .returned (.tuple #[.agg #[.int .i64 c, .int .i64 o, .string t], .bool true]) ∧ Below w.heap.size w w' := by
  have hmf : ∀ (fn : Fn) (first cap : Array Value) (w : World), (Instr.makeFunc fn first cap).run Try.prog w = .ok (.func fn first cap) w := fun _ _ _ _ => rfl
  have HX := Kp.mk (TBx.new #[.int .i64 0, .int .i64 0, .string ⟨#[]⟩] false w)
  go_enter_defers Try.func52, Try.ntmps52
  go_wp2_with fail
  refine (must_send c o t _).mono ?_
  rintro e w1 ⟨rfl, hb1⟩
  replace HX := Kp.mk (HX.out.below hb1)
  clear hb1
  have z0 := blk_cell (i := 0) HX.out.b1 rfl
  have z1 := blk_cell (i := 1) HX.out.b1 rfl
  have z2 := blk_cell (i := 2) HX.out.b1 rfl
  have z3 := blk_cell (i := 0) HX.out.b2 rfl
  have f0 := blk_free (i := 0) HX.out.b1
  have f1 := blk_free (i := 1) HX.out.b1
  have f2 := blk_free (i := 2) HX.out.b1
  have f3 := blk_free (i := 0) HX.out.b2
  go_wp2_with fail
  refine leaves_cons (f := 102) (args := #[.pointer (some ⟨w.heap.size, 0, none⟩), .pointer (some ⟨w.heap.size + 1, 0, none⟩)]) (by simp) (by simp [go_sem]) ?_
  refine (tried_idle ⟨w.heap.size, 0, none⟩ ⟨w.heap.size + 1, 0, none⟩ _).mono ?_
  rintro e u' w'' ⟨rfl, rfl, rfl⟩
  have HF := Kp.mk (HX.out.set (.int .i64 c) (.int .i64 o) (.string t) true)
  have y0 := blk_cell (i := 0) HF.out.b1 rfl
  have y1 := blk_cell (i := 1) HF.out.b1 rfl
  have y2 := blk_cell (i := 2) HF.out.b1 rfl
  have y3 := blk_cell (i := 0) HF.out.b2 rfl
  simp [Leaves, settle, results, Try.results52, go_sem, y0, y1, y2, y3]
  exact HF.out.bel
set_option maxRecDepth 100000 in
set_option maxHeartbeats 2000000 in
theorem tried_pan (a : Value) (ha : notSend a) (w : World) : Calls Try.prog 52 #[a] w fun e w' => e = .returned (.tuple #[.agg #[.int .i64 0, .int .i64 0, .string ⟨#[]⟩], .bool false]) ∧ Below w.heap.size w w' := by
  have hmf : ∀ (fn : Fn) (first cap : Array Value) (w : World), (Instr.makeFunc fn first cap).run Try.prog w = .ok (.func fn first cap) w := fun _ _ _ _ => rfl
  have HX := Kp.mk (TBx.new #[.int .i64 0, .int .i64 0, .string ⟨#[]⟩] false w)
  have HA := Kp.mk ha
  clear ha
  go_enter_defers Try.func52, Try.ntmps52
  go_wp2_with fail
  refine (must_pan a HA.out _).mono ?_
  rintro e w1 ⟨u, pv, rfl, hb1⟩
  replace HX := Kp.mk (HX.out.below hb1)
  clear hb1
  have z0 := blk_cell (i := 0) HX.out.b1 rfl
  have z1 := blk_cell (i := 1) HX.out.b1 rfl
  have z2 := blk_cell (i := 2) HX.out.b1 rfl
  have z3 := blk_cell (i := 0) HX.out.b2 rfl
  have f0 := blk_free (i := 0) HX.out.b1
  have f1 := blk_free (i := 1) HX.out.b1
  have f2 := blk_free (i := 2) HX.out.b1
  have f3 := blk_free (i := 0) HX.out.b2
  go_wp2_with fail
  refine leaves_cons (f := 102) (args := #[.pointer (some ⟨w.heap.size, 0, none⟩), .pointer (some ⟨w.heap.size + 1, 0, none⟩)]) (by simp) (by simp [go_sem]) ?_
  refine (tried_catch w.heap.size (w.heap.size + 1) _ _ _ _ u pv [] _ z0 z1 z2 z3 f0 f1 f2 f3 (by omega) (by omega)).mono ?_
  rintro e u' w'' ⟨rfl, rfl, rfl⟩
  have HF := Kp.mk (HX.out.set (.int .i64 0) (.int .i64 0) (.string ⟨#[]⟩) false)
  have y0 := blk_cell (i := 0) HF.out.b1 rfl
  have y1 := blk_cell (i := 1) HF.out.b1 rfl
  have y2 := blk_cell (i := 2) HF.out.b1 rfl
  have y3 := blk_cell (i := 0) HF.out.b2 rfl
  simp [Leaves, settle, results, Try.results52, go_sem, y0, y1, y2, y3]
  exact HF.out.bel
end Go.Proofs.Ytgogoncpnfojkaa
