/- Settings (layer 13): the law ConfigRight, whatever comes in (bin/mkcfg.py). -/
import Derived.Test.YtggnnaafkekihaaDoorCff
import Derived.Test.YtggnnaafkekihaaDoorQs
namespace Go.Proofs.YtggnnaafkekihaaDoor
open Go.RowKit
set_option linter.unusedVariables false
set_option linter.unusedSimpArgs false

theorem ex13 : cfT ⟨#[97, 98, 117, 116, 109, 101, 110, 116]⟩ ⟨#[]⟩ [1, 0, 1, 1, 1024, 4096, 10, 0, 8, 8, 0, 8192, 100, 256, 65536, 0] = ⟨#[97, 98, 117, 116, 109, 101, 110, 116, 32, 45, 32, 49, 32, 48, 32, 49, 32, 49, 32, 49, 48, 50, 52, 32, 52, 48, 57, 54, 32, 49, 48, 32, 48, 32, 56, 32, 56, 32, 48, 32, 56, 49, 57, 50, 32, 49, 48, 48, 32, 50, 53, 54, 32, 54, 53, 53, 51, 54, 32, 48]⟩ := by decide +kernel
set_option maxRecDepth 100000 in
set_option maxHeartbeats 4000000 in
theorem lives13_any (w : World) : Calls Tryd.prog 6 #[] w fun e w' => e = .returned (.bool true) ∧ Below w.heap.size w w' := by
  go_enter Tryd.func6, Tryd.ntmps6
  go_wp2_with fail
  refine (cf_usual _).mono ?_
  rintro e w1 ⟨rfl, hb1⟩
  go_wp2_with fail
  refine (cf_print ⟨#[97, 98, 117, 116, 109, 101, 110, 116]⟩ ⟨#[]⟩ 1 0 1 1 1024 4096 10 0 8 8 0 8192 100 256 65536 0 _ (by decide) (by decide)).mono ?_
  rintro e w2 ⟨rfl, hb2⟩
  rw [ex13]
  go_wp2_with fail
  go_ret
  exact ⟨rfl, hb1.trans (hb2.mono hb1.size)⟩
theorem quiet_load_row {P : Program} {C : World → Prop} {a : Act} {o : Oper} {K : Act → Prop} (ty : TypeId) (x : Operand) (ho : o.op = .load ty x)
    (g : Nat) (hx : a.eval x = .pointer (some ⟨g, 0, none⟩)) (t : TypeId) (cs : Array Value) (fr : Nat × Nat) (d : TypeDesc) (hg : ∀ w, C w → w.heap[g]? = some (.cells cs t fr))
    (hu : P.underlying ty = some d) (hd : (match d with | .struct _ | .array _ _ => true | _ => false) = true) (hi : (P.info? ty).map (·.size) = some cs.size)
    (hk : K (a.put o.dst (.agg cs))) : o.quiet P a C K :=
  ⟨.agg cs, fun w hw => by
    unfold Oper.quietAt execOp
    simp only [ho, hx, Instr.loadAt, Instr.sureAddr, Sem.run_bind, Sem.run_pure, Result.andThen_ok, run_loadVar_row w g t ty cs fr d (hg w hw) hu hd hi]
    exact ⟨rfl, rfl⟩, hk⟩
structure CfS (w : World) (n0 n1 : ByteArray) (c0 c1 c2 c3 c4 c5 c6 c7 c8 c9 c10 c11 c12 c13 c14 c15 : Int) (w' : World) : Prop where
  bel : Below w.heap.size w w'
  box : w'.heap[w.heap.size]? = some (.cells #[.string n0, .string n1, .int .i64 c0, .int .i64 c1, .int .i64 c2, .int .i64 c3, .int .i64 c4, .int .i64 c5, .int .i64 c6, .int .i64 c7, .int .i64 c8, .int .i64 c9, .int .i64 c10, .int .i64 c11, .int .i64 c12, .int .i64 c13, .int .i64 c14, .int .i64 c15] 25 (0, 0))
theorem CfS.next {w : World} {n0 n1 : ByteArray} {c0 c1 c2 c3 c4 c5 c6 c7 c8 c9 c10 c11 c12 c13 c14 c15 : Int} {w' w2 : World} (h : CfS w n0 n1 c0 c1 c2 c3 c4 c5 c6 c7 c8 c9 c10 c11 c12 c13 c14 c15 w') (hb : Below w'.heap.size w' w2) : CfS w n0 n1 c0 c1 c2 c3 c4 c5 c6 c7 c8 c9 c10 c11 c12 c13 c14 c15 w2 :=
  ⟨h.bel.trans (hb.mono h.bel.size), (hb.block _ (blk_lt h.box)).trans h.box⟩
end Go.Proofs.YtggnnaafkekihaaDoor
