/- Settings (layer 13): the numbers and their bounds, on both sides (bin/mkcfb.py). -/
import Derived.Test.YtggnnaafkekihaaDoorCfa
import Derived.Deep.RegionWith
import Derived.Deep.Cut
import Derived.Deep.WholeRow
import Derived.Laws.CopyOwn
namespace Go.Proofs.YtggnnaafkekihaaDoor
open Go.RowKit
set_option linter.unusedVariables false
set_option linter.unusedSimpArgs false

set_option maxRecDepth 100000 in
set_option maxHeartbeats 4000000 in
theorem cf_numbers (n0 n1 : ByteArray) (c0 c1 c2 c3 c4 c5 c6 c7 c8 c9 c10 c11 c12 c13 c14 c15 : Int) (w : World) :
    Calls Tryd.prog 18 #[.agg #[.string n0, .string n1, .int .i64 c0, .int .i64 c1, .int .i64 c2, .int .i64 c3, .int .i64 c4, .int .i64 c5, .int .i64 c6, .int .i64 c7, .int .i64 c8, .int .i64 c9, .int .i64 c10, .int .i64 c11, .int .i64 c12, .int .i64 c13, .int .i64 c14, .int .i64 c15]] w fun e w' => e = .returned (.agg #[.int .i64 c0, .int .i64 c1, .int .i64 c2, .int .i64 c3, .int .i64 c4, .int .i64 c5, .int .i64 c6, .int .i64 c7, .int .i64 c8, .int .i64 c9, .int .i64 c10, .int .i64 c11, .int .i64 c12, .int .i64 c13, .int .i64 c14, .int .i64 c15]) ∧ Below w.heap.size w w' := by
  go_enter Tryd.func18, Tryd.ntmps18
  go_wp2_with fail
  exact bodyPost_ret (v := .agg #[.int .i64 c0, .int .i64 c1, .int .i64 c2, .int .i64 c3, .int .i64 c4, .int .i64 c5, .int .i64 c6, .int .i64 c7, .int .i64 c8, .int .i64 c9, .int .i64 c10, .int .i64 c11, .int .i64 c12, .int .i64 c13, .int .i64 c14, .int .i64 c15]) (by simp [results, Tryd.results18, go_sem]) rfl ⟨rfl, by repeat (first | exact Below.refl _ _ | refine below_setF ?_ _ _ (by first | omega | (simp; done) | (simp; omega)) _ | refine below_alF ?_ (by first | omega | (simp; done) | (simp; omega)) _)⟩
set_option maxRecDepth 100000 in
set_option maxHeartbeats 4000000 in
theorem cf_made (n0 n1 : ByteArray) (c0 c1 c2 c3 c4 c5 c6 c7 c8 c9 c10 c11 c12 c13 c14 c15 : Int) (w : World) :
    Calls Tryd.prog 9 #[.string n0, .string n1, .agg #[.int .i64 c0, .int .i64 c1, .int .i64 c2, .int .i64 c3, .int .i64 c4, .int .i64 c5, .int .i64 c6, .int .i64 c7, .int .i64 c8, .int .i64 c9, .int .i64 c10, .int .i64 c11, .int .i64 c12, .int .i64 c13, .int .i64 c14, .int .i64 c15]] w fun e w' => e = .returned (.agg #[.string n0, .string n1, .int .i64 c0, .int .i64 c1, .int .i64 c2, .int .i64 c3, .int .i64 c4, .int .i64 c5, .int .i64 c6, .int .i64 c7, .int .i64 c8, .int .i64 c9, .int .i64 c10, .int .i64 c11, .int .i64 c12, .int .i64 c13, .int .i64 c14, .int .i64 c15]) ∧ Below w.heap.size w w' := by
  have hg0 : (((w.alloc (.cells #[.int .i64 c0, .int .i64 c1, .int .i64 c2, .int .i64 c3, .int .i64 c4, .int .i64 c5, .int .i64 c6, .int .i64 c7, .int .i64 c8, .int .i64 c9, .int .i64 c10, .int .i64 c11, .int .i64 c12, .int .i64 c13, .int .i64 c14, .int .i64 c15] 33)).alloc (.cells #[.string ByteArray.empty, .string ByteArray.empty, .int .i64 0, .int .i64 0, .int .i64 0, .int .i64 0, .int .i64 0, .int .i64 0, .int .i64 0, .int .i64 0, .int .i64 0, .int .i64 0, .int .i64 0, .int .i64 0, .int .i64 0, .int .i64 0, .int .i64 0, .int .i64 0] 25))).heap[w.heap.size + 1]? = some (.cells #[.string ByteArray.empty, .string ByteArray.empty, .int .i64 0, .int .i64 0, .int .i64 0, .int .i64 0, .int .i64 0, .int .i64 0, .int .i64 0, .int .i64 0, .int .i64 0, .int .i64 0, .int .i64 0, .int .i64 0, .int .i64 0, .int .i64 0, .int .i64 0, .int .i64 0] 25 (0, 0)) := by
    have := heap_alloc_new (w.alloc (.cells #[.int .i64 c0, .int .i64 c1, .int .i64 c2, .int .i64 c3, .int .i64 c4, .int .i64 c5, .int .i64 c6, .int .i64 c7, .int .i64 c8, .int .i64 c9, .int .i64 c10, .int .i64 c11, .int .i64 c12, .int .i64 c13, .int .i64 c14, .int .i64 c15] 33)) (.cells #[.string ByteArray.empty, .string ByteArray.empty, .int .i64 0, .int .i64 0, .int .i64 0, .int .i64 0, .int .i64 0, .int .i64 0, .int .i64 0, .int .i64 0, .int .i64 0, .int .i64 0, .int .i64 0, .int .i64 0, .int .i64 0, .int .i64 0, .int .i64 0, .int .i64 0] 25)
    simpa using this
  have hg := setRow_heap _ _ _ (#[.string n0, .string n1, .int .i64 c0, .int .i64 c1, .int .i64 c2, .int .i64 c3, .int .i64 c4, .int .i64 c5, .int .i64 c6, .int .i64 c7, .int .i64 c8, .int .i64 c9, .int .i64 c10, .int .i64 c11, .int .i64 c12, .int .i64 c13, .int .i64 c14, .int .i64 c15] : Array Value) _ _ hg0
  have hb : Below w.heap.size w ((((w.alloc (.cells #[.int .i64 c0, .int .i64 c1, .int .i64 c2, .int .i64 c3, .int .i64 c4, .int .i64 c5, .int .i64 c6, .int .i64 c7, .int .i64 c8, .int .i64 c9, .int .i64 c10, .int .i64 c11, .int .i64 c12, .int .i64 c13, .int .i64 c14, .int .i64 c15] 33)).alloc (.cells #[.string ByteArray.empty, .string ByteArray.empty, .int .i64 0, .int .i64 0, .int .i64 0, .int .i64 0, .int .i64 0, .int .i64 0, .int .i64 0, .int .i64 0, .int .i64 0, .int .i64 0, .int .i64 0, .int .i64 0, .int .i64 0, .int .i64 0, .int .i64 0, .int .i64 0] 25)).setRow (w.heap.size + 1) #[.string n0, .string n1, .int .i64 c0, .int .i64 c1, .int .i64 c2, .int .i64 c3, .int .i64 c4, .int .i64 c5, .int .i64 c6, .int .i64 c7, .int .i64 c8, .int .i64 c9, .int .i64 c10, .int .i64 c11, .int .i64 c12, .int .i64 c13, .int .i64 c14, .int .i64 c15])) := below_setRow (below_alF (below_alF (Below.refl _ _) (Nat.le_refl _) _) (by simp) _) (by omega) _
  have HG0 := Kp.mk hg0
  have HG := Kp.mk hg
  have HB := Kp.mk hb
  clear hg0 hg hb
  go_enter Tryd.func9, Tryd.ntmps9
  go_upto_region 1 with fail
  repeat ((fail_if_success (with_reducible show Oper.wp _ (Oper.mk _ (.store _ _ _) _ _ _ _) _ _ _ _)); go_step)
  refine wp_store_row _ _ _ (by rfl) _ #[.string n0, .string n1, .int .i64 c0, .int .i64 c1, .int .i64 c2, .int .i64 c3, .int .i64 c4, .int .i64 c5, .int .i64 c6, .int .i64 c7, .int .i64 c8, .int .i64 c9, .int .i64 c10, .int .i64 c11, .int .i64 c12, .int .i64 c13, .int .i64 c14, .int .i64 c15] (by rfl) (by rfl) _ _ HG0.out (by kernel_rfl) rfl (by simp [Value.oneCell']) ?_
  go_wp2_with fail
  simp only [Act.put]
  refine bodyPost_ret (v := .agg #[.string n0, .string n1, .int .i64 c0, .int .i64 c1, .int .i64 c2, .int .i64 c3, .int .i64 c4, .int .i64 c5, .int .i64 c6, .int .i64 c7, .int .i64 c8, .int .i64 c9, .int .i64 c10, .int .i64 c11, .int .i64 c12, .int .i64 c13, .int .i64 c14, .int .i64 c15]) ?_ rfl ⟨rfl, HB.out⟩
  exact results_cell_row (p := 6) (ty := 25) (by kernel_rfl) _ _ (w.heap.size + 1) _ _ _ _ (by rfl) HG.out Tryd.underlying25 rfl (by kernel_rfl)
set_option maxRecDepth 100000 in
set_option maxHeartbeats 4000000 in
theorem cf_usual (w : World) :
    Calls Tryd.prog 14 #[] w fun e w' => e = .returned (.agg #[.string ⟨#[97, 98, 117, 116, 109, 101, 110, 116]⟩, .string ⟨#[]⟩, .int .i64 1, .int .i64 0, .int .i64 1, .int .i64 1, .int .i64 1024, .int .i64 4096, .int .i64 10, .int .i64 0, .int .i64 8, .int .i64 8, .int .i64 0, .int .i64 8192, .int .i64 100, .int .i64 256, .int .i64 65536, .int .i64 0]) ∧ Below w.heap.size w w' := by
  go_enter Tryd.func14, Tryd.ntmps14
  go_wp2_with fail
  refine (cf_made _ _ 1 0 1 1 1024 4096 10 0 8 8 0 8192 100 256 65536 0 _).mono ?_
  rintro e w1 ⟨rfl, hb⟩
  have hg0 : w1.heap[w.heap.size]? = some (.cells #[.string ByteArray.empty, .string ByteArray.empty, .int .i64 0, .int .i64 0, .int .i64 0, .int .i64 0, .int .i64 0, .int .i64 0, .int .i64 0, .int .i64 0, .int .i64 0, .int .i64 0, .int .i64 0, .int .i64 0, .int .i64 0, .int .i64 0, .int .i64 0, .int .i64 0] 25 (0, 0)) := (hb.block _ (by simp)).trans (heap_alloc_new _ _)
  have hg := setRow_heap _ _ _ (#[.string ⟨#[97, 98, 117, 116, 109, 101, 110, 116]⟩, .string ⟨#[]⟩, .int .i64 1, .int .i64 0, .int .i64 1, .int .i64 1, .int .i64 1024, .int .i64 4096, .int .i64 10, .int .i64 0, .int .i64 8, .int .i64 8, .int .i64 0, .int .i64 8192, .int .i64 100, .int .i64 256, .int .i64 65536, .int .i64 0] : Array Value) _ _ hg0
  have hb2 : Below w.heap.size w (w1.setRow w.heap.size #[.string ⟨#[97, 98, 117, 116, 109, 101, 110, 116]⟩, .string ⟨#[]⟩, .int .i64 1, .int .i64 0, .int .i64 1, .int .i64 1, .int .i64 1024, .int .i64 4096, .int .i64 10, .int .i64 0, .int .i64 8, .int .i64 8, .int .i64 0, .int .i64 8192, .int .i64 100, .int .i64 256, .int .i64 65536, .int .i64 0]) := below_setRow ((below_alF (Below.refl _ _) (Nat.le_refl _) _).trans (hb.mono (by simp))) (by omega) _
  have HG0 := Kp.mk hg0
  have HG := Kp.mk hg
  have HB := Kp.mk hb2
  clear hg0 hg hb2 hb
  dsimp only
  repeat ((fail_if_success (with_reducible show Oper.wp _ (Oper.mk _ (.store _ _ _) _ _ _ _) _ _ _ _)); go_step)
  refine wp_store_row _ _ _ (by rfl) _ #[.string ⟨#[97, 98, 117, 116, 109, 101, 110, 116]⟩, .string ⟨#[]⟩, .int .i64 1, .int .i64 0, .int .i64 1, .int .i64 1, .int .i64 1024, .int .i64 4096, .int .i64 10, .int .i64 0, .int .i64 8, .int .i64 8, .int .i64 0, .int .i64 8192, .int .i64 100, .int .i64 256, .int .i64 65536, .int .i64 0] (by rfl) (by rfl) _ _ HG0.out (by kernel_rfl) rfl (by simp [Value.oneCell']) ?_
  go_wp2_with fail
  simp only [Act.put]
  refine bodyPost_ret (v := .agg #[.string ⟨#[97, 98, 117, 116, 109, 101, 110, 116]⟩, .string ⟨#[]⟩, .int .i64 1, .int .i64 0, .int .i64 1, .int .i64 1, .int .i64 1024, .int .i64 4096, .int .i64 10, .int .i64 0, .int .i64 8, .int .i64 8, .int .i64 0, .int .i64 8192, .int .i64 100, .int .i64 256, .int .i64 65536, .int .i64 0]) ?_ rfl ⟨rfl, HB.out⟩
  exact results_cell_row (p := 0) (ty := 25) (by kernel_rfl) _ _ w.heap.size _ _ _ _ (by rfl) HG.out Tryd.underlying25 rfl (by kernel_rfl)
set_option maxRecDepth 100000 in
set_option maxHeartbeats 4000000 in
theorem cf_bounds (w : World) :
    Calls Tryd.prog 31 #[] w fun e w' => e = .returned (.agg cfBO) ∧ Below w.heap.size w w' := by
  have HG0 := Kp.mk (heap_alloc_new w (.cells #[.int .i64 0, .int .i64 0, .int .i64 0, .int .i64 0, .int .i64 0, .int .i64 0, .int .i64 0, .int .i64 0, .int .i64 0, .int .i64 0, .int .i64 0, .int .i64 0, .int .i64 0, .int .i64 0, .int .i64 0, .int .i64 0, .int .i64 0, .int .i64 0, .int .i64 0, .int .i64 0, .int .i64 0, .int .i64 0, .int .i64 0, .int .i64 0, .int .i64 0, .int .i64 0, .int .i64 0, .int .i64 0, .int .i64 0, .int .i64 0, .int .i64 0, .int .i64 0] 57))
  have HG := Kp.mk (setRow_heap _ _ _ cfBO _ _ HG0.out)
  have HB := Kp.mk (show Below w.heap.size w ((w.alloc (.cells #[.int .i64 0, .int .i64 0, .int .i64 0, .int .i64 0, .int .i64 0, .int .i64 0, .int .i64 0, .int .i64 0, .int .i64 0, .int .i64 0, .int .i64 0, .int .i64 0, .int .i64 0, .int .i64 0, .int .i64 0, .int .i64 0, .int .i64 0, .int .i64 0, .int .i64 0, .int .i64 0, .int .i64 0, .int .i64 0, .int .i64 0, .int .i64 0, .int .i64 0, .int .i64 0, .int .i64 0, .int .i64 0, .int .i64 0, .int .i64 0, .int .i64 0, .int .i64 0] 57)).setRow w.heap.size cfBO) from below_setRow (below_alF (Below.refl _ _) (Nat.le_refl _) _) (Nat.le_refl _) _)
  go_enter Tryd.func31, Tryd.ntmps31
  go_upto_region 1 with fail
  iterate 53 go_step
  refine wp_store_row _ _ _ (by rfl) _ cfBO (by rfl) (by unfold cfBO; rfl) _ _ HG0.out (by kernel_rfl) rfl (by decide +kernel) ?_
  go_wp2_with fail
  simp only [Act.put]
  refine bodyPost_ret (v := .agg cfBO) ?_ rfl ⟨rfl, HB.out⟩
  exact results_cell_row (p := 0) (ty := 57) (by kernel_rfl) _ _ w.heap.size _ _ _ _ (by rfl) HG.out Tryd.underlying57 rfl (by kernel_rfl)
def RowOf (cs : Array Value) (w : World) (e : Ending) (w' : World) : Prop := ∃ b, e = .returned (.slice (some ⟨b, 0, none⟩) 16 16) ∧ w'.heap[b]? = some (.cells cs 3 (0, 0)) ∧ w.heap.size ≤ b ∧ Below w.heap.size w w'
set_option maxRecDepth 100000 in
set_option maxHeartbeats 4000000 in
theorem rcf_numbers (n0 n1 : ByteArray) (c0 c1 c2 c3 c4 c5 c6 c7 c8 c9 c10 c11 c12 c13 c14 c15 : Int) (w : World) :
    Calls Tryd.prog 23 #[.agg #[.string n0, .string n1, .int .i64 c0, .int .i64 c1, .int .i64 c2, .int .i64 c3, .int .i64 c4, .int .i64 c5, .int .i64 c6, .int .i64 c7, .int .i64 c8, .int .i64 c9, .int .i64 c10, .int .i64 c11, .int .i64 c12, .int .i64 c13, .int .i64 c14, .int .i64 c15]] w (RowOf (cfNU [c0, c1, c2, c3, c4, c5, c6, c7, c8, c9, c10, c11, c12, c13, c14, c15]) w) := by
  go_enter Tryd.func23, Tryd.ntmps23
  go_wp2_with fail
  go_ret
  exact ⟨_, rfl, cf_new _ _ _ (by first | rfl | (simp; done)), by first | exact Nat.le_refl _ | omega | (simp <;> omega), by repeat (first | exact Below.refl _ _ | refine below_setF ?_ _ _ (by first | omega | (simp; done) | (simp; omega)) _ | refine below_alF ?_ (by first | omega | (simp; done) | (simp; omega)) _)⟩
set_option maxRecDepth 100000 in
set_option maxHeartbeats 4000000 in
theorem rcf_least (w : World) : Calls Tryd.prog 38 #[] w (RowOf cfLE w) := by
  go_enter Tryd.func38, Tryd.ntmps38
  go_wp2_with fail
  go_ret
  exact ⟨_, rfl, cf_new _ _ _ (by first | rfl | (simp; done)), by first | exact Nat.le_refl _ | omega | (simp <;> omega), by repeat (first | exact Below.refl _ _ | refine below_setF ?_ _ _ (by first | omega | (simp; done) | (simp; omega)) _ | refine below_alF ?_ (by first | omega | (simp; done) | (simp; omega)) _)⟩
set_option maxRecDepth 100000 in
set_option maxHeartbeats 4000000 in
theorem rcf_most (w : World) : Calls Tryd.prog 39 #[] w (RowOf cfMO w) := by
  go_enter Tryd.func39, Tryd.ntmps39
  go_wp2_with fail
  go_ret
  exact ⟨_, rfl, cf_new _ _ _ (by first | rfl | (simp; done)), by first | exact Nat.le_refl _ | omega | (simp <;> omega), by repeat (first | exact Below.refl _ _ | refine below_setF ?_ _ _ (by first | omega | (simp; done) | (simp; omega)) _ | refine below_alF ?_ (by first | omega | (simp; done) | (simp; omega)) _)⟩
end Go.Proofs.YtggnnaafkekihaaDoor
