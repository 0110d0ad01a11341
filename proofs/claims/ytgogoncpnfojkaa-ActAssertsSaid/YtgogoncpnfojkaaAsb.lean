/- Steps (layer 44): what is a Send, what a step is about. -/
import Derived.Test.YtgogoncpnfojkaaAsa
import Derived.Test.YtgogoncpnfojkaaAcv
namespace Go.Proofs.Ytgogoncpnfojkaa
open Go.RowKit
set_option linter.unusedVariables false
set_option linter.unusedSimpArgs false

theorem as_nosend (a : Value) (h : notSend a) (w : World) : (Instr.typeAssert a 89 93 true).run Try.prog w = .ok (.tuple #[.agg #[.int .i64 0, .int .i64 0, .string ⟨#[]⟩], .bool false]) w := by
  cases a with
  | nilIface => simp [Instr.typeAssert, run_underlying Try.underlying93, Try.zeroValue93]
  | iface T v => simp [Instr.typeAssert, run_underlying Try.underlying93, Try.zeroValue93, (show ¬ T = 93 from h)]
  | _ => exact absurd h (by simp [notSend])
theorem as_send (v : Value) (w : World) : (Instr.typeAssert (.iface 93 v) 89 93 true).run Try.prog w = .ok (.tuple #[v, .bool true]) w := by kernel_rfl
set_option maxRecDepth 100000 in
set_option maxHeartbeats 2000000 in
theorem sent_yes (c o : Int) (t : ByteArray) (w : World) : Calls Try.prog 51 #[.iface 93 (.agg #[.int .i64 c, .int .i64 o, .string t])] w fun e w' => e = .returned (.tuple #[.agg #[.int .i64 c, .int .i64 o, .string t], .bool true]) ∧ Below w.heap.size w w' := by
  have has := fun w => as_send (.agg #[.int .i64 c, .int .i64 o, .string t]) w
  have k0 := blk_alloc (o2 := .cells #[.int .i64 c, .int .i64 o, .string t] 93) (heap_alloc_new w (.cells #[.int .i64 c, .int .i64 o, .string t] 93))
  have z0 := blk_cell (i := 0) k0 rfl
  have z1 := blk_cell (i := 1) k0 rfl
  have z2 := blk_cell (i := 2) k0 rfl
  clear k0
  go_enter Try.func51, Try.ntmps51
  go_wp2_with fail
  exact bodyPost_ret (v := .tuple #[.agg #[.int .i64 c, .int .i64 o, .string t], .bool true]) (by simp [results, Try.results51, go_sem, z0, z1, z2]) rfl ⟨rfl, ((Below.refl w.heap.size w).alloc (Nat.le_refl _) _).alloc (by simp) _⟩
set_option maxRecDepth 100000 in
set_option maxHeartbeats 2000000 in
theorem sent_no (a : Value) (ha : notSend a) (w : World) : Calls Try.prog 51 #[a] w fun e w' => e = .returned (.tuple #[.agg #[.int .i64 0, .int .i64 0, .string ⟨#[]⟩], .bool false]) ∧ Below w.heap.size w w' := by
  have has := fun w => as_nosend a ha w
  have k0 := blk_alloc (o2 := .cells #[.int .i64 0, .int .i64 0, .string ⟨#[]⟩] 93) (heap_alloc_new w (.cells #[.int .i64 0, .int .i64 0, .string ⟨#[]⟩] 93))
  have z0 := blk_cell (i := 0) k0 rfl
  have z1 := blk_cell (i := 1) k0 rfl
  have z2 := blk_cell (i := 2) k0 rfl
  clear k0 ha
  go_enter Try.func51, Try.ntmps51
  go_wp2_with fail
  exact bodyPost_ret (v := .tuple #[.agg #[.int .i64 0, .int .i64 0, .string ⟨#[]⟩], .bool false]) (by simp [results, Try.results51, go_sem, z0, z1, z2]) rfl ⟨rfl, ((Below.refl w.heap.size w).alloc (Nat.le_refl _) _).alloc (by simp) _⟩
theorem as_open_end (c o n : Int) (t : ByteArray) (w : World) : (Instr.typeAssert (.iface 169 (.agg #[.int .i64 c])) 89 171 true).run Try.prog w = .ok (.tuple #[.agg #[.int .i64 0, .int .i64 0], .bool false]) w := by kernel_rfl
theorem as_open_send (c o n : Int) (t : ByteArray) (w : World) : (Instr.typeAssert (.iface 169 (.agg #[.int .i64 c])) 89 93 true).run Try.prog w = .ok (.tuple #[.agg #[.int .i64 0, .int .i64 0, .string ⟨#[]⟩], .bool false]) w := by kernel_rfl
theorem as_open_open (c o n : Int) (t : ByteArray) (w : World) : (Instr.typeAssert (.iface 169 (.agg #[.int .i64 c])) 89 169 true).run Try.prog w = .ok (.tuple #[.agg #[.int .i64 c], .bool true]) w := by kernel_rfl
theorem as_open_read (c o n : Int) (t : ByteArray) (w : World) : (Instr.typeAssert (.iface 169 (.agg #[.int .i64 c])) 89 173 true).run Try.prog w = .ok (.tuple #[.agg #[.int .i64 0, .int .i64 0, .int .i64 0], .bool false]) w := by kernel_rfl
theorem as_open_grant (c o n : Int) (t : ByteArray) (w : World) : (Instr.typeAssert (.iface 169 (.agg #[.int .i64 c])) 89 174 true).run Try.prog w = .ok (.tuple #[.agg #[.int .i64 0, .int .i64 0, .int .i64 0], .bool false]) w := by kernel_rfl
theorem as_open_serve (c o n : Int) (t : ByteArray) (w : World) : (Instr.typeAssert (.iface 169 (.agg #[.int .i64 c])) 89 177 true).run Try.prog w = .ok (.tuple #[.agg #[.int .i64 0], .bool false]) w := by kernel_rfl
theorem as_send_end (c o n : Int) (t : ByteArray) (w : World) : (Instr.typeAssert (.iface 93 (.agg #[.int .i64 c, .int .i64 o, .string t])) 89 171 true).run Try.prog w = .ok (.tuple #[.agg #[.int .i64 0, .int .i64 0], .bool false]) w := by kernel_rfl
theorem as_send_send (c o n : Int) (t : ByteArray) (w : World) : (Instr.typeAssert (.iface 93 (.agg #[.int .i64 c, .int .i64 o, .string t])) 89 93 true).run Try.prog w = .ok (.tuple #[.agg #[.int .i64 c, .int .i64 o, .string t], .bool true]) w := by kernel_rfl
theorem as_send_open (c o n : Int) (t : ByteArray) (w : World) : (Instr.typeAssert (.iface 93 (.agg #[.int .i64 c, .int .i64 o, .string t])) 89 169 true).run Try.prog w = .ok (.tuple #[.agg #[.int .i64 0], .bool false]) w := by kernel_rfl
theorem as_send_read (c o n : Int) (t : ByteArray) (w : World) : (Instr.typeAssert (.iface 93 (.agg #[.int .i64 c, .int .i64 o, .string t])) 89 173 true).run Try.prog w = .ok (.tuple #[.agg #[.int .i64 0, .int .i64 0, .int .i64 0], .bool false]) w := by kernel_rfl
theorem as_send_grant (c o n : Int) (t : ByteArray) (w : World) : (Instr.typeAssert (.iface 93 (.agg #[.int .i64 c, .int .i64 o, .string t])) 89 174 true).run Try.prog w = .ok (.tuple #[.agg #[.int .i64 0, .int .i64 0, .int .i64 0], .bool false]) w := by kernel_rfl
theorem as_send_serve (c o n : Int) (t : ByteArray) (w : World) : (Instr.typeAssert (.iface 93 (.agg #[.int .i64 c, .int .i64 o, .string t])) 89 177 true).run Try.prog w = .ok (.tuple #[.agg #[.int .i64 0], .bool false]) w := by kernel_rfl
theorem as_end_end (c o n : Int) (t : ByteArray) (w : World) : (Instr.typeAssert (.iface 171 (.agg #[.int .i64 c, .int .i64 o])) 89 171 true).run Try.prog w = .ok (.tuple #[.agg #[.int .i64 c, .int .i64 o], .bool true]) w := by kernel_rfl
theorem as_end_send (c o n : Int) (t : ByteArray) (w : World) : (Instr.typeAssert (.iface 171 (.agg #[.int .i64 c, .int .i64 o])) 89 93 true).run Try.prog w = .ok (.tuple #[.agg #[.int .i64 0, .int .i64 0, .string ⟨#[]⟩], .bool false]) w := by kernel_rfl
theorem as_end_open (c o n : Int) (t : ByteArray) (w : World) : (Instr.typeAssert (.iface 171 (.agg #[.int .i64 c, .int .i64 o])) 89 169 true).run Try.prog w = .ok (.tuple #[.agg #[.int .i64 0], .bool false]) w := by kernel_rfl
theorem as_end_read (c o n : Int) (t : ByteArray) (w : World) : (Instr.typeAssert (.iface 171 (.agg #[.int .i64 c, .int .i64 o])) 89 173 true).run Try.prog w = .ok (.tuple #[.agg #[.int .i64 0, .int .i64 0, .int .i64 0], .bool false]) w := by kernel_rfl
theorem as_end_grant (c o n : Int) (t : ByteArray) (w : World) : (Instr.typeAssert (.iface 171 (.agg #[.int .i64 c, .int .i64 o])) 89 174 true).run Try.prog w = .ok (.tuple #[.agg #[.int .i64 0, .int .i64 0, .int .i64 0], .bool false]) w := by kernel_rfl
theorem as_end_serve (c o n : Int) (t : ByteArray) (w : World) : (Instr.typeAssert (.iface 171 (.agg #[.int .i64 c, .int .i64 o])) 89 177 true).run Try.prog w = .ok (.tuple #[.agg #[.int .i64 0], .bool false]) w := by kernel_rfl
theorem as_read_end (c o n : Int) (t : ByteArray) (w : World) : (Instr.typeAssert (.iface 173 (.agg #[.int .i64 c, .int .i64 o, .int .i64 n])) 89 171 true).run Try.prog w = .ok (.tuple #[.agg #[.int .i64 0, .int .i64 0], .bool false]) w := by kernel_rfl
theorem as_read_send (c o n : Int) (t : ByteArray) (w : World) : (Instr.typeAssert (.iface 173 (.agg #[.int .i64 c, .int .i64 o, .int .i64 n])) 89 93 true).run Try.prog w = .ok (.tuple #[.agg #[.int .i64 0, .int .i64 0, .string ⟨#[]⟩], .bool false]) w := by kernel_rfl
theorem as_read_open (c o n : Int) (t : ByteArray) (w : World) : (Instr.typeAssert (.iface 173 (.agg #[.int .i64 c, .int .i64 o, .int .i64 n])) 89 169 true).run Try.prog w = .ok (.tuple #[.agg #[.int .i64 0], .bool false]) w := by kernel_rfl
theorem as_read_read (c o n : Int) (t : ByteArray) (w : World) : (Instr.typeAssert (.iface 173 (.agg #[.int .i64 c, .int .i64 o, .int .i64 n])) 89 173 true).run Try.prog w = .ok (.tuple #[.agg #[.int .i64 c, .int .i64 o, .int .i64 n], .bool true]) w := by kernel_rfl
theorem as_read_grant (c o n : Int) (t : ByteArray) (w : World) : (Instr.typeAssert (.iface 173 (.agg #[.int .i64 c, .int .i64 o, .int .i64 n])) 89 174 true).run Try.prog w = .ok (.tuple #[.agg #[.int .i64 0, .int .i64 0, .int .i64 0], .bool false]) w := by kernel_rfl
theorem as_read_serve (c o n : Int) (t : ByteArray) (w : World) : (Instr.typeAssert (.iface 173 (.agg #[.int .i64 c, .int .i64 o, .int .i64 n])) 89 177 true).run Try.prog w = .ok (.tuple #[.agg #[.int .i64 0], .bool false]) w := by kernel_rfl
theorem as_grant_end (c o n : Int) (t : ByteArray) (w : World) : (Instr.typeAssert (.iface 174 (.agg #[.int .i64 c, .int .i64 o, .int .i64 n])) 89 171 true).run Try.prog w = .ok (.tuple #[.agg #[.int .i64 0, .int .i64 0], .bool false]) w := by kernel_rfl
theorem as_grant_send (c o n : Int) (t : ByteArray) (w : World) : (Instr.typeAssert (.iface 174 (.agg #[.int .i64 c, .int .i64 o, .int .i64 n])) 89 93 true).run Try.prog w = .ok (.tuple #[.agg #[.int .i64 0, .int .i64 0, .string ⟨#[]⟩], .bool false]) w := by kernel_rfl
theorem as_grant_open (c o n : Int) (t : ByteArray) (w : World) : (Instr.typeAssert (.iface 174 (.agg #[.int .i64 c, .int .i64 o, .int .i64 n])) 89 169 true).run Try.prog w = .ok (.tuple #[.agg #[.int .i64 0], .bool false]) w := by kernel_rfl
theorem as_grant_read (c o n : Int) (t : ByteArray) (w : World) : (Instr.typeAssert (.iface 174 (.agg #[.int .i64 c, .int .i64 o, .int .i64 n])) 89 173 true).run Try.prog w = .ok (.tuple #[.agg #[.int .i64 0, .int .i64 0, .int .i64 0], .bool false]) w := by kernel_rfl
theorem as_grant_grant (c o n : Int) (t : ByteArray) (w : World) : (Instr.typeAssert (.iface 174 (.agg #[.int .i64 c, .int .i64 o, .int .i64 n])) 89 174 true).run Try.prog w = .ok (.tuple #[.agg #[.int .i64 c, .int .i64 o, .int .i64 n], .bool true]) w := by kernel_rfl
theorem as_grant_serve (c o n : Int) (t : ByteArray) (w : World) : (Instr.typeAssert (.iface 174 (.agg #[.int .i64 c, .int .i64 o, .int .i64 n])) 89 177 true).run Try.prog w = .ok (.tuple #[.agg #[.int .i64 0], .bool false]) w := by kernel_rfl
theorem as_tick_end (c o n : Int) (t : ByteArray) (w : World) : (Instr.typeAssert (.iface 176 (.agg #[.int .i64 n])) 89 171 true).run Try.prog w = .ok (.tuple #[.agg #[.int .i64 0, .int .i64 0], .bool false]) w := by kernel_rfl
theorem as_tick_send (c o n : Int) (t : ByteArray) (w : World) : (Instr.typeAssert (.iface 176 (.agg #[.int .i64 n])) 89 93 true).run Try.prog w = .ok (.tuple #[.agg #[.int .i64 0, .int .i64 0, .string ⟨#[]⟩], .bool false]) w := by kernel_rfl
theorem as_tick_open (c o n : Int) (t : ByteArray) (w : World) : (Instr.typeAssert (.iface 176 (.agg #[.int .i64 n])) 89 169 true).run Try.prog w = .ok (.tuple #[.agg #[.int .i64 0], .bool false]) w := by kernel_rfl
theorem as_tick_read (c o n : Int) (t : ByteArray) (w : World) : (Instr.typeAssert (.iface 176 (.agg #[.int .i64 n])) 89 173 true).run Try.prog w = .ok (.tuple #[.agg #[.int .i64 0, .int .i64 0, .int .i64 0], .bool false]) w := by kernel_rfl
theorem as_tick_grant (c o n : Int) (t : ByteArray) (w : World) : (Instr.typeAssert (.iface 176 (.agg #[.int .i64 n])) 89 174 true).run Try.prog w = .ok (.tuple #[.agg #[.int .i64 0, .int .i64 0, .int .i64 0], .bool false]) w := by kernel_rfl
theorem as_tick_serve (c o n : Int) (t : ByteArray) (w : World) : (Instr.typeAssert (.iface 176 (.agg #[.int .i64 n])) 89 177 true).run Try.prog w = .ok (.tuple #[.agg #[.int .i64 0], .bool false]) w := by kernel_rfl
theorem as_serve_end (c o n : Int) (t : ByteArray) (w : World) : (Instr.typeAssert (.iface 177 (.agg #[.int .i64 c])) 89 171 true).run Try.prog w = .ok (.tuple #[.agg #[.int .i64 0, .int .i64 0], .bool false]) w := by kernel_rfl
theorem as_serve_send (c o n : Int) (t : ByteArray) (w : World) : (Instr.typeAssert (.iface 177 (.agg #[.int .i64 c])) 89 93 true).run Try.prog w = .ok (.tuple #[.agg #[.int .i64 0, .int .i64 0, .string ⟨#[]⟩], .bool false]) w := by kernel_rfl
theorem as_serve_open (c o n : Int) (t : ByteArray) (w : World) : (Instr.typeAssert (.iface 177 (.agg #[.int .i64 c])) 89 169 true).run Try.prog w = .ok (.tuple #[.agg #[.int .i64 0], .bool false]) w := by kernel_rfl
theorem as_serve_read (c o n : Int) (t : ByteArray) (w : World) : (Instr.typeAssert (.iface 177 (.agg #[.int .i64 c])) 89 173 true).run Try.prog w = .ok (.tuple #[.agg #[.int .i64 0, .int .i64 0, .int .i64 0], .bool false]) w := by kernel_rfl
theorem as_serve_grant (c o n : Int) (t : ByteArray) (w : World) : (Instr.typeAssert (.iface 177 (.agg #[.int .i64 c])) 89 174 true).run Try.prog w = .ok (.tuple #[.agg #[.int .i64 0, .int .i64 0, .int .i64 0], .bool false]) w := by kernel_rfl
theorem as_serve_serve (c o n : Int) (t : ByteArray) (w : World) : (Instr.typeAssert (.iface 177 (.agg #[.int .i64 c])) 89 177 true).run Try.prog w = .ok (.tuple #[.agg #[.int .i64 c], .bool true]) w := by kernel_rfl
theorem as_nil_end (w : World) : (Instr.typeAssert .nilIface 89 171 true).run Try.prog w = .ok (.tuple #[.agg #[.int .i64 0, .int .i64 0], .bool false]) w := by kernel_rfl
theorem as_nil_send (w : World) : (Instr.typeAssert .nilIface 89 93 true).run Try.prog w = .ok (.tuple #[.agg #[.int .i64 0, .int .i64 0, .string ⟨#[]⟩], .bool false]) w := by kernel_rfl
theorem as_nil_open (w : World) : (Instr.typeAssert .nilIface 89 169 true).run Try.prog w = .ok (.tuple #[.agg #[.int .i64 0], .bool false]) w := by kernel_rfl
theorem as_nil_read (w : World) : (Instr.typeAssert .nilIface 89 173 true).run Try.prog w = .ok (.tuple #[.agg #[.int .i64 0, .int .i64 0, .int .i64 0], .bool false]) w := by kernel_rfl
theorem as_nil_grant (w : World) : (Instr.typeAssert .nilIface 89 174 true).run Try.prog w = .ok (.tuple #[.agg #[.int .i64 0, .int .i64 0, .int .i64 0], .bool false]) w := by kernel_rfl
theorem as_nil_serve (w : World) : (Instr.typeAssert .nilIface 89 177 true).run Try.prog w = .ok (.tuple #[.agg #[.int .i64 0], .bool false]) w := by kernel_rfl
theorem fe1 (op c o n : Int) (t : ByteArray) (w : World) : (Instr.field 87 (.agg #[.int .i64 op, .int .i64 c, .int .i64 o, .int .i64 n, .string t]) 1).run Try.prog w = .ok (.agg #[.int .i64 c, .int .i64 o]) w := by kernel_rfl
theorem me_open (k : Nat) (v : Value) (w : World) : (method (k + 1) 169 v "Event").run Try.prog w = .ok (219, v) w := by kernel_rfl
theorem na_open (k : Nat) (v : Value) (w : World) : (nilAhead (k + 1) 169 v "Event").run Try.prog w = .ok (some false) w := by kernel_rfl
theorem me_send (k : Nat) (v : Value) (w : World) : (method (k + 1) 93 v "Event").run Try.prog w = .ok (217, v) w := by kernel_rfl
theorem na_send (k : Nat) (v : Value) (w : World) : (nilAhead (k + 1) 93 v "Event").run Try.prog w = .ok (some false) w := by kernel_rfl
theorem me_end (k : Nat) (v : Value) (w : World) : (method (k + 1) 171 v "Event").run Try.prog w = .ok (220, v) w := by kernel_rfl
theorem na_end (k : Nat) (v : Value) (w : World) : (nilAhead (k + 1) 171 v "Event").run Try.prog w = .ok (some false) w := by kernel_rfl
theorem me_read (k : Nat) (v : Value) (w : World) : (method (k + 1) 173 v "Event").run Try.prog w = .ok (221, v) w := by kernel_rfl
theorem na_read (k : Nat) (v : Value) (w : World) : (nilAhead (k + 1) 173 v "Event").run Try.prog w = .ok (some false) w := by kernel_rfl
theorem me_grant (k : Nat) (v : Value) (w : World) : (method (k + 1) 174 v "Event").run Try.prog w = .ok (222, v) w := by kernel_rfl
theorem na_grant (k : Nat) (v : Value) (w : World) : (nilAhead (k + 1) 174 v "Event").run Try.prog w = .ok (some false) w := by kernel_rfl
theorem me_serve (k : Nat) (v : Value) (w : World) : (method (k + 1) 177 v "Event").run Try.prog w = .ok (224, v) w := by kernel_rfl
theorem na_serve (k : Nat) (v : Value) (w : World) : (nilAhead (k + 1) 177 v "Event").run Try.prog w = .ok (some false) w := by kernel_rfl
set_option maxRecDepth 100000 in
set_option maxHeartbeats 2000000 in
theorem conn_open (c o n : Int) (t : ByteArray) (w : World) : Calls Try.prog 53 #[.iface 169 (.agg #[.int .i64 c])] w fun e w' => e = .returned (.tuple #[.agg #[.int .i64 c, .int .i64 0], .bool true]) ∧ Below w.heap.size w w' := by
  have qend := fun w => as_open_end c o n t w
  have qsend := fun w => as_open_send c o n t w
  have qopen := fun w => as_open_open c o n t w
  have qread := fun w => as_open_read c o n t w
  have qgrant := fun w => as_open_grant c o n t w
  have qserve := fun w => as_open_serve c o n t w
  have hmf : ∀ (fn : Fn) (first cap : Array Value) (w : World), (Instr.makeFunc fn first cap).run Try.prog w = .ok (.func fn first cap) w := fun _ _ _ _ => rfl
  have hna := na_open
  have hme := me_open
  have hfe := fe1 1 c 0 0 ⟨#[]⟩
  have k0 := heap_alloc_new w (.cells #[.int .i64 0, .int .i64 0] 85)
  have K0 := Kp.mk k0
  have HB := Kp.mk ((Below.refl w.heap.size w).alloc (Nat.le_refl _) (.cells #[.int .i64 0, .int .i64 0] 85))
  clear k0
  go_enter Try.func53, Try.ntmps53
  go_wp2_with fail
  refine (aev1 c _).mono ?_
  rintro e w1 ⟨rfl, hb1⟩
  have k1 := (hb1.block _ (blk_lt K0.out)).trans K0.out
  have HB1 := Kp.mk (HB.out.trans (hb1.mono HB.out.size))
  have z0 := blk_cell (i := 0) k1 rfl
  have z1 := blk_cell (i := 1) k1 rfl
  have f0 := blk_free (i := 0) k1
  have f1 := blk_free (i := 1) k1
  have K1 := Kp.mk (blk_set (blk_set k1 (i := 0) (.int .i64 c)) (i := 1) (.int .i64 0))
  clear k1 hb1
  go_wp2_with fail
  have y0 := blk_cell (i := 0) K1.out rfl
  have y1 := blk_cell (i := 1) K1.out rfl
  simp only [Array.getElem_setIfInBounds_self, Array.getElem_setIfInBounds_ne, List.setIfInBounds_toArray, List.set_cons_zero, List.set_cons_succ, List.getElem_toArray, List.getElem_cons_zero, List.getElem_cons_succ] at y0 y1
  exact bodyPost_ret (v := .tuple #[.agg #[.int .i64 c, .int .i64 0], .bool true]) (by simp [results, Try.results53, go_sem, y0, y1]) rfl ⟨rfl, (HB1.out.setCell (Nat.le_refl _) _).setCell (Nat.le_refl _) _⟩
set_option maxRecDepth 100000 in
set_option maxHeartbeats 2000000 in
theorem conn_send (c o n : Int) (t : ByteArray) (w : World) : Calls Try.prog 53 #[.iface 93 (.agg #[.int .i64 c, .int .i64 o, .string t])] w fun e w' => e = .returned (.tuple #[.agg #[.int .i64 c, .int .i64 o], .bool true]) ∧ Below w.heap.size w w' := by
  have qend := fun w => as_send_end c o n t w
  have qsend := fun w => as_send_send c o n t w
  have qopen := fun w => as_send_open c o n t w
  have qread := fun w => as_send_read c o n t w
  have qgrant := fun w => as_send_grant c o n t w
  have qserve := fun w => as_send_serve c o n t w
  have hmf : ∀ (fn : Fn) (first cap : Array Value) (w : World), (Instr.makeFunc fn first cap).run Try.prog w = .ok (.func fn first cap) w := fun _ _ _ _ => rfl
  have hna := na_send
  have hme := me_send
  have hfe := fe1 2 c o 0 t
  have k0 := heap_alloc_new w (.cells #[.int .i64 0, .int .i64 0] 85)
  have K0 := Kp.mk k0
  have HB := Kp.mk ((Below.refl w.heap.size w).alloc (Nat.le_refl _) (.cells #[.int .i64 0, .int .i64 0] 85))
  clear k0
  go_enter Try.func53, Try.ntmps53
  go_wp2_with fail
  refine (aev2 c o t _).mono ?_
  rintro e w1 ⟨rfl, hb1⟩
  have k1 := (hb1.block _ (blk_lt K0.out)).trans K0.out
  have HB1 := Kp.mk (HB.out.trans (hb1.mono HB.out.size))
  have z0 := blk_cell (i := 0) k1 rfl
  have z1 := blk_cell (i := 1) k1 rfl
  have f0 := blk_free (i := 0) k1
  have f1 := blk_free (i := 1) k1
  have K1 := Kp.mk (blk_set (blk_set k1 (i := 0) (.int .i64 c)) (i := 1) (.int .i64 o))
  clear k1 hb1
  go_wp2_with fail
  have y0 := blk_cell (i := 0) K1.out rfl
  have y1 := blk_cell (i := 1) K1.out rfl
  simp only [Array.getElem_setIfInBounds_self, Array.getElem_setIfInBounds_ne, List.setIfInBounds_toArray, List.set_cons_zero, List.set_cons_succ, List.getElem_toArray, List.getElem_cons_zero, List.getElem_cons_succ] at y0 y1
  exact bodyPost_ret (v := .tuple #[.agg #[.int .i64 c, .int .i64 o], .bool true]) (by simp [results, Try.results53, go_sem, y0, y1]) rfl ⟨rfl, (HB1.out.setCell (Nat.le_refl _) _).setCell (Nat.le_refl _) _⟩
set_option maxRecDepth 100000 in
set_option maxHeartbeats 2000000 in
theorem conn_end (c o n : Int) (t : ByteArray) (w : World) : Calls Try.prog 53 #[.iface 171 (.agg #[.int .i64 c, .int .i64 o])] w fun e w' => e = .returned (.tuple #[.agg #[.int .i64 c, .int .i64 o], .bool true]) ∧ Below w.heap.size w w' := by
  have qend := fun w => as_end_end c o n t w
  have qsend := fun w => as_end_send c o n t w
  have qopen := fun w => as_end_open c o n t w
  have qread := fun w => as_end_read c o n t w
  have qgrant := fun w => as_end_grant c o n t w
  have qserve := fun w => as_end_serve c o n t w
  have hmf : ∀ (fn : Fn) (first cap : Array Value) (w : World), (Instr.makeFunc fn first cap).run Try.prog w = .ok (.func fn first cap) w := fun _ _ _ _ => rfl
  have hna := na_end
  have hme := me_end
  have hfe := fe1 3 c o 0 ⟨#[]⟩
  have k0 := heap_alloc_new w (.cells #[.int .i64 0, .int .i64 0] 85)
  have K0 := Kp.mk k0
  have HB := Kp.mk ((Below.refl w.heap.size w).alloc (Nat.le_refl _) (.cells #[.int .i64 0, .int .i64 0] 85))
  clear k0
  go_enter Try.func53, Try.ntmps53
  go_wp2_with fail
  refine (aev3 c o _).mono ?_
  rintro e w1 ⟨rfl, hb1⟩
  have k1 := (hb1.block _ (blk_lt K0.out)).trans K0.out
  have HB1 := Kp.mk (HB.out.trans (hb1.mono HB.out.size))
  have z0 := blk_cell (i := 0) k1 rfl
  have z1 := blk_cell (i := 1) k1 rfl
  have f0 := blk_free (i := 0) k1
  have f1 := blk_free (i := 1) k1
  have K1 := Kp.mk (blk_set (blk_set k1 (i := 0) (.int .i64 c)) (i := 1) (.int .i64 o))
  clear k1 hb1
  go_wp2_with fail
  have y0 := blk_cell (i := 0) K1.out rfl
  have y1 := blk_cell (i := 1) K1.out rfl
  simp only [Array.getElem_setIfInBounds_self, Array.getElem_setIfInBounds_ne, List.setIfInBounds_toArray, List.set_cons_zero, List.set_cons_succ, List.getElem_toArray, List.getElem_cons_zero, List.getElem_cons_succ] at y0 y1
  exact bodyPost_ret (v := .tuple #[.agg #[.int .i64 c, .int .i64 o], .bool true]) (by simp [results, Try.results53, go_sem, y0, y1]) rfl ⟨rfl, (HB1.out.setCell (Nat.le_refl _) _).setCell (Nat.le_refl _) _⟩
set_option maxRecDepth 100000 in
set_option maxHeartbeats 2000000 in
theorem conn_read (c o n : Int) (t : ByteArray) (w : World) : Calls Try.prog 53 #[.iface 173 (.agg #[.int .i64 c, .int .i64 o, .int .i64 n])] w fun e w' => e = .returned (.tuple #[.agg #[.int .i64 c, .int .i64 o], .bool true]) ∧ Below w.heap.size w w' := by
  have qend := fun w => as_read_end c o n t w
  have qsend := fun w => as_read_send c o n t w
  have qopen := fun w => as_read_open c o n t w
  have qread := fun w => as_read_read c o n t w
  have qgrant := fun w => as_read_grant c o n t w
  have qserve := fun w => as_read_serve c o n t w
  have hmf : ∀ (fn : Fn) (first cap : Array Value) (w : World), (Instr.makeFunc fn first cap).run Try.prog w = .ok (.func fn first cap) w := fun _ _ _ _ => rfl
  have hna := na_read
  have hme := me_read
  have hfe := fe1 4 c o n ⟨#[]⟩
  have k0 := heap_alloc_new w (.cells #[.int .i64 0, .int .i64 0] 85)
  have K0 := Kp.mk k0
  have HB := Kp.mk ((Below.refl w.heap.size w).alloc (Nat.le_refl _) (.cells #[.int .i64 0, .int .i64 0] 85))
  clear k0
  go_enter Try.func53, Try.ntmps53
  go_wp2_with fail
  refine (aev4 c o n _).mono ?_
  rintro e w1 ⟨rfl, hb1⟩
  have k1 := (hb1.block _ (blk_lt K0.out)).trans K0.out
  have HB1 := Kp.mk (HB.out.trans (hb1.mono HB.out.size))
  have z0 := blk_cell (i := 0) k1 rfl
  have z1 := blk_cell (i := 1) k1 rfl
  have f0 := blk_free (i := 0) k1
  have f1 := blk_free (i := 1) k1
  have K1 := Kp.mk (blk_set (blk_set k1 (i := 0) (.int .i64 c)) (i := 1) (.int .i64 o))
  clear k1 hb1
  go_wp2_with fail
  have y0 := blk_cell (i := 0) K1.out rfl
  have y1 := blk_cell (i := 1) K1.out rfl
  simp only [Array.getElem_setIfInBounds_self, Array.getElem_setIfInBounds_ne, List.setIfInBounds_toArray, List.set_cons_zero, List.set_cons_succ, List.getElem_toArray, List.getElem_cons_zero, List.getElem_cons_succ] at y0 y1
  exact bodyPost_ret (v := .tuple #[.agg #[.int .i64 c, .int .i64 o], .bool true]) (by simp [results, Try.results53, go_sem, y0, y1]) rfl ⟨rfl, (HB1.out.setCell (Nat.le_refl _) _).setCell (Nat.le_refl _) _⟩
set_option maxRecDepth 100000 in
set_option maxHeartbeats 2000000 in
theorem conn_grant (c o n : Int) (t : ByteArray) (w : World) : Calls Try.prog 53 #[.iface 174 (.agg #[.int .i64 c, .int .i64 o, .int .i64 n])] w fun e w' => e = .returned (.tuple #[.agg #[.int .i64 c, .int .i64 o], .bool true]) ∧ Below w.heap.size w w' := by
  have qend := fun w => as_grant_end c o n t w
  have qsend := fun w => as_grant_send c o n t w
  have qopen := fun w => as_grant_open c o n t w
  have qread := fun w => as_grant_read c o n t w
  have qgrant := fun w => as_grant_grant c o n t w
  have qserve := fun w => as_grant_serve c o n t w
  have hmf : ∀ (fn : Fn) (first cap : Array Value) (w : World), (Instr.makeFunc fn first cap).run Try.prog w = .ok (.func fn first cap) w := fun _ _ _ _ => rfl
  have hna := na_grant
  have hme := me_grant
  have hfe := fe1 5 c o n ⟨#[]⟩
  have k0 := heap_alloc_new w (.cells #[.int .i64 0, .int .i64 0] 85)
  have K0 := Kp.mk k0
  have HB := Kp.mk ((Below.refl w.heap.size w).alloc (Nat.le_refl _) (.cells #[.int .i64 0, .int .i64 0] 85))
  clear k0
  go_enter Try.func53, Try.ntmps53
  go_wp2_with fail
  refine (aev5 c o n _).mono ?_
  rintro e w1 ⟨rfl, hb1⟩
  have k1 := (hb1.block _ (blk_lt K0.out)).trans K0.out
  have HB1 := Kp.mk (HB.out.trans (hb1.mono HB.out.size))
  have z0 := blk_cell (i := 0) k1 rfl
  have z1 := blk_cell (i := 1) k1 rfl
  have f0 := blk_free (i := 0) k1
  have f1 := blk_free (i := 1) k1
  have K1 := Kp.mk (blk_set (blk_set k1 (i := 0) (.int .i64 c)) (i := 1) (.int .i64 o))
  clear k1 hb1
  go_wp2_with fail
  have y0 := blk_cell (i := 0) K1.out rfl
  have y1 := blk_cell (i := 1) K1.out rfl
  simp only [Array.getElem_setIfInBounds_self, Array.getElem_setIfInBounds_ne, List.setIfInBounds_toArray, List.set_cons_zero, List.set_cons_succ, List.getElem_toArray, List.getElem_cons_zero, List.getElem_cons_succ] at y0 y1
  exact bodyPost_ret (v := .tuple #[.agg #[.int .i64 c, .int .i64 o], .bool true]) (by simp [results, Try.results53, go_sem, y0, y1]) rfl ⟨rfl, (HB1.out.setCell (Nat.le_refl _) _).setCell (Nat.le_refl _) _⟩
set_option maxRecDepth 100000 in
set_option maxHeartbeats 2000000 in
theorem conn_tick (c o n : Int) (t : ByteArray) (w : World) : Calls Try.prog 53 #[.iface 176 (.agg #[.int .i64 n])] w fun e w' => e = .returned (.tuple #[.agg #[.int .i64 0, .int .i64 0], .bool false]) ∧ Below w.heap.size w w' := by
  have qend := fun w => as_tick_end c o n t w
  have qsend := fun w => as_tick_send c o n t w
  have qopen := fun w => as_tick_open c o n t w
  have qread := fun w => as_tick_read c o n t w
  have qgrant := fun w => as_tick_grant c o n t w
  have qserve := fun w => as_tick_serve c o n t w
  have hmf : ∀ (fn : Fn) (first cap : Array Value) (w : World), (Instr.makeFunc fn first cap).run Try.prog w = .ok (.func fn first cap) w := fun _ _ _ _ => rfl
  have k0 := heap_alloc_new w (.cells #[.int .i64 0, .int .i64 0] 85)
  have z0 := blk_cell (i := 0) k0 rfl
  have z1 := blk_cell (i := 1) k0 rfl
  go_enter Try.func53, Try.ntmps53
  go_wp2_with fail
  (try simp only [Exit.inBlock, Exit.then])
  exact bodyPost_ret (v := .tuple #[.agg #[.int .i64 0, .int .i64 0], .bool false]) (by simp [results, Try.results53, go_sem, z0, z1]) rfl ⟨rfl, (Below.refl w.heap.size w).alloc (Nat.le_refl _) _⟩
set_option maxRecDepth 100000 in
set_option maxHeartbeats 2000000 in
theorem conn_nil (w : World) : Calls Try.prog 53 #[.nilIface] w fun e w' => e = .returned (.tuple #[.agg #[.int .i64 0, .int .i64 0], .bool false]) ∧ Below w.heap.size w w' := by
  have qend := as_nil_end
  have qsend := as_nil_send
  have qopen := as_nil_open
  have qread := as_nil_read
  have qgrant := as_nil_grant
  have qserve := as_nil_serve
  have hmf : ∀ (fn : Fn) (first cap : Array Value) (w : World), (Instr.makeFunc fn first cap).run Try.prog w = .ok (.func fn first cap) w := fun _ _ _ _ => rfl
  have k0 := heap_alloc_new w (.cells #[.int .i64 0, .int .i64 0] 85)
  have z0 := blk_cell (i := 0) k0 rfl
  have z1 := blk_cell (i := 1) k0 rfl
  go_enter Try.func53, Try.ntmps53
  go_wp2_with fail
  (try simp only [Exit.inBlock, Exit.then])
  exact bodyPost_ret (v := .tuple #[.agg #[.int .i64 0, .int .i64 0], .bool false]) (by simp [results, Try.results53, go_sem, z0, z1]) rfl ⟨rfl, (Below.refl w.heap.size w).alloc (Nat.le_refl _) _⟩
set_option maxRecDepth 100000 in
set_option maxHeartbeats 2000000 in
theorem conn_serve (c o n : Int) (t : ByteArray) (w : World) : Calls Try.prog 53 #[.iface 177 (.agg #[.int .i64 c])] w fun e w' => e = .returned (.tuple #[.agg #[.int .i64 c, .int .i64 0], .bool true]) ∧ Below w.heap.size w w' := by
  have qend := fun w => as_serve_end c o n t w
  have qsend := fun w => as_serve_send c o n t w
  have qopen := fun w => as_serve_open c o n t w
  have qread := fun w => as_serve_read c o n t w
  have qgrant := fun w => as_serve_grant c o n t w
  have qserve := fun w => as_serve_serve c o n t w
  have hmf : ∀ (fn : Fn) (first cap : Array Value) (w : World), (Instr.makeFunc fn first cap).run Try.prog w = .ok (.func fn first cap) w := fun _ _ _ _ => rfl
  have hna := na_serve
  have hme := me_serve
  have hfe := fe1 7 c 0 0 ⟨#[]⟩
  have k0 := heap_alloc_new w (.cells #[.int .i64 0, .int .i64 0] 85)
  have K0 := Kp.mk k0
  have HB := Kp.mk ((Below.refl w.heap.size w).alloc (Nat.le_refl _) (.cells #[.int .i64 0, .int .i64 0] 85))
  clear k0
  go_enter Try.func53, Try.ntmps53
  go_wp2_with fail
  refine (aev7 c _).mono ?_
  rintro e w1 ⟨rfl, hb1⟩
  have k1 := (hb1.block _ (blk_lt K0.out)).trans K0.out
  have HB1 := Kp.mk (HB.out.trans (hb1.mono HB.out.size))
  have z0 := blk_cell (i := 0) k1 rfl
  have z1 := blk_cell (i := 1) k1 rfl
  have f0 := blk_free (i := 0) k1
  have f1 := blk_free (i := 1) k1
  have K1 := Kp.mk (blk_set (blk_set k1 (i := 0) (.int .i64 c)) (i := 1) (.int .i64 0))
  clear k1 hb1
  go_wp2_with fail
  have y0 := blk_cell (i := 0) K1.out rfl
  have y1 := blk_cell (i := 1) K1.out rfl
  simp only [Array.getElem_setIfInBounds_self, Array.getElem_setIfInBounds_ne, List.setIfInBounds_toArray, List.set_cons_zero, List.set_cons_succ, List.getElem_toArray, List.getElem_cons_zero, List.getElem_cons_succ] at y0 y1
  exact bodyPost_ret (v := .tuple #[.agg #[.int .i64 c, .int .i64 0], .bool true]) (by simp [results, Try.results53, go_sem, y0, y1]) rfl ⟨rfl, (HB1.out.setCell (Nat.le_refl _) _).setCell (Nat.le_refl _) _⟩
end Go.Proofs.Ytgogoncpnfojkaa
