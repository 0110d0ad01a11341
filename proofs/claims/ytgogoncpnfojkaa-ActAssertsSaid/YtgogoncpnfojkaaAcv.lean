/- Steps of scripts (layer 44): the step that an event is. -/
import Derived.Test.YtgogoncpnfojkaaAcu
namespace Go.Proofs.Ytgogoncpnfojkaa
open Go.RowKit
set_option linter.unusedVariables false
set_option linter.unusedSimpArgs false

set_option maxRecDepth 100000 in
set_option maxHeartbeats 2000000 in
theorem aof_none (op c o n : Int) (t : ByteArray) (w : World) (hr : rightB op c o n t.size = false) :
    Calls Try.prog 50 #[.agg #[.int .i64 op, .int .i64 c, .int .i64 o, .int .i64 n, .string t]] w fun e w' => e = .returned (.tuple #[.nilIface, .bool false]) ∧ Below w.heap.size w w' := by
  have HR := Lib.hid hr
  have HB0 := Lib.hid (bal (Below.refl w.heap.size w) (.cells #[.int .i64 op, .int .i64 c, .int .i64 o, .int .i64 n, .string t] 87))
  clear hr
  go_enter Try.func50, Try.ntmps50
  go_wp2_with fail
  refine (aright_any _ _ _ _ _ _).mono ?_
  rintro e w1 ⟨rfl, hb1⟩
  rw [HR.out]
  go_wp2_with fail
  go_ret2
  exact ⟨rfl, below_thnA HB0.out hb1⟩
set_option maxRecDepth 100000 in
set_option maxHeartbeats 2000000 in
theorem aof1 (c o n : Int) (t : ByteArray) (w : World) (hr : rightB 1 c o n t.size = true) :
    Calls Try.prog 50 #[.agg #[.int .i64 1, .int .i64 c, .int .i64 o, .int .i64 n, .string t]] w fun e w' => e = .returned (.tuple #[.iface 169 (.agg #[.int .i64 c]), .bool true]) ∧ Below w.heap.size w w' := by
  have HR := Lib.hid hr
  have HB0 := Lib.hid (bal (Below.refl w.heap.size w) (.cells #[.int .i64 1, .int .i64 c, .int .i64 o, .int .i64 n, .string t] 87))
  clear hr
  go_enter Try.func50, Try.ntmps50
  go_wp2_with fail
  refine (aright_any _ _ _ _ _ _).mono ?_
  rintro e w1 ⟨rfl, hb1⟩
  rw [HR.out]
  obtain ⟨hc1, hf1⟩ := bcell hb1
  have hz1 : w.heap.size < w1.heap.size := by have := hb1.size; simp at this; omega
  go_wp2_with fail
  go_ret2
  exact ⟨rfl, by first | exact below_thnA HB0.out hb1 | exact bal (below_thnA HB0.out hb1) _⟩
set_option maxRecDepth 100000 in
set_option maxHeartbeats 2000000 in
theorem aof2 (c o n : Int) (t : ByteArray) (w : World) (hr : rightB 2 c o n t.size = true) :
    Calls Try.prog 50 #[.agg #[.int .i64 2, .int .i64 c, .int .i64 o, .int .i64 n, .string t]] w fun e w' => e = .returned (.tuple #[.iface 93 (.agg #[.int .i64 c, .int .i64 o, .string t]), .bool true]) ∧ Below w.heap.size w w' := by
  have HR := Lib.hid hr
  have HB0 := Lib.hid (bal (Below.refl w.heap.size w) (.cells #[.int .i64 2, .int .i64 c, .int .i64 o, .int .i64 n, .string t] 87))
  clear hr
  go_enter Try.func50, Try.ntmps50
  go_wp2_with fail
  refine (aright_any _ _ _ _ _ _).mono ?_
  rintro e w1 ⟨rfl, hb1⟩
  rw [HR.out]
  obtain ⟨hc1, hf1⟩ := bcell hb1
  have hz1 : w.heap.size < w1.heap.size := by have := hb1.size; simp at this; omega
  go_wp2_with fail
  go_ret2
  exact ⟨rfl, by first | exact below_thnA HB0.out hb1 | exact bal (below_thnA HB0.out hb1) _⟩
set_option maxRecDepth 100000 in
set_option maxHeartbeats 2000000 in
theorem aof3 (c o n : Int) (t : ByteArray) (w : World) (hr : rightB 3 c o n t.size = true) :
    Calls Try.prog 50 #[.agg #[.int .i64 3, .int .i64 c, .int .i64 o, .int .i64 n, .string t]] w fun e w' => e = .returned (.tuple #[.iface 171 (.agg #[.int .i64 c, .int .i64 o]), .bool true]) ∧ Below w.heap.size w w' := by
  have HR := Lib.hid hr
  have HB0 := Lib.hid (bal (Below.refl w.heap.size w) (.cells #[.int .i64 3, .int .i64 c, .int .i64 o, .int .i64 n, .string t] 87))
  clear hr
  go_enter Try.func50, Try.ntmps50
  go_wp2_with fail
  refine (aright_any _ _ _ _ _ _).mono ?_
  rintro e w1 ⟨rfl, hb1⟩
  rw [HR.out]
  obtain ⟨hc1, hf1⟩ := bcell hb1
  have hz1 : w.heap.size < w1.heap.size := by have := hb1.size; simp at this; omega
  go_wp2_with fail
  go_ret2
  exact ⟨rfl, by first | exact below_thnA HB0.out hb1 | exact bal (below_thnA HB0.out hb1) _⟩
set_option maxRecDepth 100000 in
set_option maxHeartbeats 2000000 in
theorem aof4 (c o n : Int) (t : ByteArray) (w : World) (hr : rightB 4 c o n t.size = true) :
    Calls Try.prog 50 #[.agg #[.int .i64 4, .int .i64 c, .int .i64 o, .int .i64 n, .string t]] w fun e w' => e = .returned (.tuple #[.iface 173 (.agg #[.int .i64 c, .int .i64 o, .int .i64 n]), .bool true]) ∧ Below w.heap.size w w' := by
  have HR := Lib.hid hr
  have HB0 := Lib.hid (bal (Below.refl w.heap.size w) (.cells #[.int .i64 4, .int .i64 c, .int .i64 o, .int .i64 n, .string t] 87))
  clear hr
  go_enter Try.func50, Try.ntmps50
  go_wp2_with fail
  refine (aright_any _ _ _ _ _ _).mono ?_
  rintro e w1 ⟨rfl, hb1⟩
  rw [HR.out]
  obtain ⟨hc1, hf1⟩ := bcell hb1
  have hz1 : w.heap.size < w1.heap.size := by have := hb1.size; simp at this; omega
  go_wp2_with fail
  go_ret2
  exact ⟨rfl, by first | exact below_thnA HB0.out hb1 | exact bal (below_thnA HB0.out hb1) _⟩
set_option maxRecDepth 100000 in
set_option maxHeartbeats 2000000 in
theorem aof5 (c o n : Int) (t : ByteArray) (w : World) (hr : rightB 5 c o n t.size = true) :
    Calls Try.prog 50 #[.agg #[.int .i64 5, .int .i64 c, .int .i64 o, .int .i64 n, .string t]] w fun e w' => e = .returned (.tuple #[.iface 174 (.agg #[.int .i64 c, .int .i64 o, .int .i64 n]), .bool true]) ∧ Below w.heap.size w w' := by
  have HR := Lib.hid hr
  have HB0 := Lib.hid (bal (Below.refl w.heap.size w) (.cells #[.int .i64 5, .int .i64 c, .int .i64 o, .int .i64 n, .string t] 87))
  clear hr
  go_enter Try.func50, Try.ntmps50
  go_wp2_with fail
  refine (aright_any _ _ _ _ _ _).mono ?_
  rintro e w1 ⟨rfl, hb1⟩
  rw [HR.out]
  obtain ⟨hc1, hf1⟩ := bcell hb1
  have hz1 : w.heap.size < w1.heap.size := by have := hb1.size; simp at this; omega
  go_wp2_with fail
  go_ret2
  exact ⟨rfl, by first | exact below_thnA HB0.out hb1 | exact bal (below_thnA HB0.out hb1) _⟩
set_option maxRecDepth 100000 in
set_option maxHeartbeats 2000000 in
theorem aof6 (c o n : Int) (t : ByteArray) (w : World) (hr : rightB 6 c o n t.size = true) :
    Calls Try.prog 50 #[.agg #[.int .i64 6, .int .i64 c, .int .i64 o, .int .i64 n, .string t]] w fun e w' => e = .returned (.tuple #[.iface 176 (.agg #[.int .i64 n]), .bool true]) ∧ Below w.heap.size w w' := by
  have HR := Lib.hid hr
  have HB0 := Lib.hid (bal (Below.refl w.heap.size w) (.cells #[.int .i64 6, .int .i64 c, .int .i64 o, .int .i64 n, .string t] 87))
  clear hr
  go_enter Try.func50, Try.ntmps50
  go_wp2_with fail
  refine (aright_any _ _ _ _ _ _).mono ?_
  rintro e w1 ⟨rfl, hb1⟩
  rw [HR.out]
  obtain ⟨hc1, hf1⟩ := bcell hb1
  have hz1 : w.heap.size < w1.heap.size := by have := hb1.size; simp at this; omega
  go_wp2_with fail
  go_ret2
  exact ⟨rfl, by first | exact below_thnA HB0.out hb1 | exact bal (below_thnA HB0.out hb1) _⟩
set_option maxRecDepth 100000 in
set_option maxHeartbeats 2000000 in
theorem aof7 (c o n : Int) (t : ByteArray) (w : World) (hr : rightB 7 c o n t.size = true) :
    Calls Try.prog 50 #[.agg #[.int .i64 7, .int .i64 c, .int .i64 o, .int .i64 n, .string t]] w fun e w' => e = .returned (.tuple #[.iface 177 (.agg #[.int .i64 c]), .bool true]) ∧ Below w.heap.size w w' := by
  have HR := Lib.hid hr
  have HB0 := Lib.hid (bal (Below.refl w.heap.size w) (.cells #[.int .i64 7, .int .i64 c, .int .i64 o, .int .i64 n, .string t] 87))
  clear hr
  go_enter Try.func50, Try.ntmps50
  go_wp2_with fail
  refine (aright_any _ _ _ _ _ _).mono ?_
  rintro e w1 ⟨rfl, hb1⟩
  rw [HR.out]
  obtain ⟨hc1, hf1⟩ := bcell hb1
  have hz1 : w.heap.size < w1.heap.size := by have := hb1.size; simp at this; omega
  go_wp2_with fail
  go_ret2
  exact ⟨rfl, by first | exact below_thnA HB0.out hb1 | exact bal (below_thnA HB0.out hb1) _⟩
set_option maxRecDepth 100000 in
theorem aev1 (c : Int) (w : World) :
    Calls Try.prog 219 #[.agg #[.int .i64 c]] w fun e w' => e = .returned (.agg #[.int .i64 1, .int .i64 c, .int .i64 0, .int .i64 0, .string ⟨#[]⟩]) ∧ Below w.heap.size w w' := by
  go_enter Try.func219, Try.ntmps219
  go_wp2
  exact bodyPost_ret (v := .agg #[.int .i64 1, .int .i64 c, .int .i64 0, .int .i64 0, .string ⟨#[]⟩]) (by simp [results, Try.results219, go_sem]) rfl ⟨rfl, by repeat (first | exact Below.refl _ _ | refine bal ?_ _ | refine (fun h => Below.setCell h (Nat.le_refl _) _) ?_)⟩
set_option maxRecDepth 100000 in
theorem aev2 (c o : Int) (t : ByteArray) (w : World) :
    Calls Try.prog 217 #[.agg #[.int .i64 c, .int .i64 o, .string t]] w fun e w' => e = .returned (.agg #[.int .i64 2, .int .i64 c, .int .i64 o, .int .i64 0, .string t]) ∧ Below w.heap.size w w' := by
  go_enter Try.func217, Try.ntmps217
  go_wp2
  exact bodyPost_ret (v := .agg #[.int .i64 2, .int .i64 c, .int .i64 o, .int .i64 0, .string t]) (by simp [results, Try.results217, go_sem]) rfl ⟨rfl, by repeat (first | exact Below.refl _ _ | refine bal ?_ _ | refine (fun h => Below.setCell h (Nat.le_refl _) _) ?_)⟩
set_option maxRecDepth 100000 in
theorem aev3 (c o : Int) (w : World) :
    Calls Try.prog 220 #[.agg #[.int .i64 c, .int .i64 o]] w fun e w' => e = .returned (.agg #[.int .i64 3, .int .i64 c, .int .i64 o, .int .i64 0, .string ⟨#[]⟩]) ∧ Below w.heap.size w w' := by
  go_enter Try.func220, Try.ntmps220
  go_wp2
  exact bodyPost_ret (v := .agg #[.int .i64 3, .int .i64 c, .int .i64 o, .int .i64 0, .string ⟨#[]⟩]) (by simp [results, Try.results220, go_sem]) rfl ⟨rfl, by repeat (first | exact Below.refl _ _ | refine bal ?_ _ | refine (fun h => Below.setCell h (Nat.le_refl _) _) ?_)⟩
set_option maxRecDepth 100000 in
theorem aev4 (c o n : Int) (w : World) :
    Calls Try.prog 221 #[.agg #[.int .i64 c, .int .i64 o, .int .i64 n]] w fun e w' => e = .returned (.agg #[.int .i64 4, .int .i64 c, .int .i64 o, .int .i64 n, .string ⟨#[]⟩]) ∧ Below w.heap.size w w' := by
  go_enter Try.func221, Try.ntmps221
  go_wp2
  exact bodyPost_ret (v := .agg #[.int .i64 4, .int .i64 c, .int .i64 o, .int .i64 n, .string ⟨#[]⟩]) (by simp [results, Try.results221, go_sem]) rfl ⟨rfl, by repeat (first | exact Below.refl _ _ | refine bal ?_ _ | refine (fun h => Below.setCell h (Nat.le_refl _) _) ?_)⟩
set_option maxRecDepth 100000 in
theorem aev5 (c o n : Int) (w : World) :
    Calls Try.prog 222 #[.agg #[.int .i64 c, .int .i64 o, .int .i64 n]] w fun e w' => e = .returned (.agg #[.int .i64 5, .int .i64 c, .int .i64 o, .int .i64 n, .string ⟨#[]⟩]) ∧ Below w.heap.size w w' := by
  go_enter Try.func222, Try.ntmps222
  go_wp2
  exact bodyPost_ret (v := .agg #[.int .i64 5, .int .i64 c, .int .i64 o, .int .i64 n, .string ⟨#[]⟩]) (by simp [results, Try.results222, go_sem]) rfl ⟨rfl, by repeat (first | exact Below.refl _ _ | refine bal ?_ _ | refine (fun h => Below.setCell h (Nat.le_refl _) _) ?_)⟩
set_option maxRecDepth 100000 in
theorem aev6 (n : Int) (w : World) :
    Calls Try.prog 223 #[.agg #[.int .i64 n]] w fun e w' => e = .returned (.agg #[.int .i64 6, .int .i64 0, .int .i64 0, .int .i64 n, .string ⟨#[]⟩]) ∧ Below w.heap.size w w' := by
  go_enter Try.func223, Try.ntmps223
  go_wp2
  exact bodyPost_ret (v := .agg #[.int .i64 6, .int .i64 0, .int .i64 0, .int .i64 n, .string ⟨#[]⟩]) (by simp [results, Try.results223, go_sem]) rfl ⟨rfl, by repeat (first | exact Below.refl _ _ | refine bal ?_ _ | refine (fun h => Below.setCell h (Nat.le_refl _) _) ?_)⟩
set_option maxRecDepth 100000 in
theorem aev7 (c : Int) (w : World) :
    Calls Try.prog 224 #[.agg #[.int .i64 c]] w fun e w' => e = .returned (.agg #[.int .i64 7, .int .i64 c, .int .i64 0, .int .i64 0, .string ⟨#[]⟩]) ∧ Below w.heap.size w w' := by
  go_enter Try.func224, Try.ntmps224
  go_wp2
  exact bodyPost_ret (v := .agg #[.int .i64 7, .int .i64 c, .int .i64 0, .int .i64 0, .string ⟨#[]⟩]) (by simp [results, Try.results224, go_sem]) rfl ⟨rfl, by repeat (first | exact Below.refl _ _ | refine bal ?_ _ | refine (fun h => Below.setCell h (Nat.le_refl _) _) ?_)⟩
end Go.Proofs.Ytgogoncpnfojkaa
