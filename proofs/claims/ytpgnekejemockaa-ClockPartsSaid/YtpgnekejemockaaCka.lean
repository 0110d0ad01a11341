/- Who is due (layer 41): a clock in memory; what it does, call by call (bin/mkcka.py). -/
import Derived.Test.YtpgnekejemockaaRfl
import Derived.Test.YtpgnekejemockaaProg
import Derived.Maps.RangeWalk
import Derived.Maps.OwnOps
import Derived.Deep.QuietTactic
import Derived.Deep.DeepCutAuto
namespace Go.Proofs.Ytpgnekejemockaa
open Go.RowKit
set_option linter.unusedVariables false
set_option linter.unusedSimpArgs false

theorem Try.keyI : Maps.Keyed Try.prog 3 := Maps.int_keyed Try.underlying3
theorem Try.zeroI (w : World) : (zeroValue 3).run Try.prog w = .ok (.int .i64 0) w := by kernel_rfl
/-- The numbers that the map's datum holds, as a function. -/
def FD (D : DataW Unit) (F : Int → Option Int) : Prop :=
  ∀ id : Int, (Lit.int .i64 id).wf = true → Maps.has D (.int .i64 id) = (F id).isSome ∧ D.atKey (.int .i64 id) (.lit (.int .i64 0)) = .lit (.int .i64 ((F id).getD 0))
def setF (F : Int → Option Int) (id v : Int) : Int → Option Int := fun k => if k = id then some v else F k
def delF (F : Int → Option Int) (id : Int) : Int → Option Int := fun k => if k = id then none else F k
theorem lit_ne {x y : Int} (h : x ≠ y) : (Lit.int .i64 x) ≠ Lit.int .i64 y := fun e => h (by injection e)
theorem FD.start : FD (.map []) (fun _ => none) := fun id _ => ⟨rfl, rfl⟩
theorem FD.put {D : DataW Unit} {F : Int → Option Int} (h : FD D F) (hm : Maps.IsMap D) (id v : Int) (hk : WideAt.IsKeyLit (.int .i64 id)) : FD (D.put (.int .i64 id) (.lit (.int .i64 v))) (setF F id v) := by
  intro k hw
  unfold setF
  by_cases e : k = id
  · subst e
    rw [if_pos rfl]
    exact ⟨Maps.has_put_same hm hk _, Maps.atKey_put_same hm hk _ _⟩
  · rw [if_neg e, Maps.has_put_other (lit_ne e), Maps.atKey_put_other (lit_ne e)]
    exact h k hw
theorem FD.del {D : DataW Unit} {F : Int → Option Int} (h : FD D F) (id : Int) : FD (D.del (.int .i64 id)) (delF F id) := by
  intro k hw
  unfold delF
  by_cases e : k = id
  · subst e
    rw [if_pos rfl]
    exact ⟨Maps.has_del_same, Maps.atKey_del_same _⟩
  · rw [if_neg e, Maps.has_del_other (lit_ne e), Maps.atKey_del_other (lit_ne e)]
    exact h k hw
/-- The clock at b shows now; its map, at m, of at most n entries, holds F. -/
structure CK (b m n : Nat) (now : Int) (F : Int → Option Int) (w : World) : Prop where
  hb : w.heap[b]? = some (.cells #[.int .i64 now, .map (some m)] 82 (0, 0))
  hm : ∃ D, w.ownsMap (H := Unit) Try.prog 3 (plainElem Try.prog 3) m n D ∧ FD D F
  ne : b ≠ m
theorem own_blk {w w' : World} {m n : Nat} {D : DataW Unit} (h : w.ownsMap (H := Unit) Try.prog 3 (plainElem Try.prog 3) m n D) (hk : w'.heap[m]? = w.heap[m]?) : w'.ownsMap (H := Unit) Try.prog 3 (plainElem Try.prog 3) m n D := by
  obtain ⟨es, clock, hb, rest⟩ := h
  exact ⟨es, clock, hk.trans hb, rest⟩
theorem CK.mlt {b m n : Nat} {now : Int} {F : Int → Option Int} {w : World} (h : CK b m n now F w) : m < w.heap.size := by
  obtain ⟨D, h1, -⟩ := h.hm
  exact h1.lt
theorem CK.kept {b m n : Nat} {now : Int} {F : Int → Option Int} {w w' : World} (h : CK b m n now F w) (h1 : w'.heap[b]? = w.heap[b]?) (h2 : w'.heap[m]? = w.heap[m]?) : CK b m n now F w' := by
  obtain ⟨D, g1, g2⟩ := h.hm
  exact ⟨h1.trans h.hb, ⟨D, own_blk g1 h2, g2⟩, h.ne⟩
theorem CK.below {b m n : Nat} {now : Int} {F : Int → Option Int} {w w' : World} (h : CK b m n now F w) (hb : Below w.heap.size w w') : CK b m n now F w' := h.kept (hb.block _ (blk_lt h.hb)) (hb.block _ h.mlt)
theorem CK.drew {b m n : Nat} {now : Int} {F : Int → Option Int} {w : World} (h : CK b m n now F w) : CK b m n now F w.drew := h.kept rfl rfl
theorem kpt_grown {w w' : World} {m : Nat} (h : w.grownBy w' (some m)) : Kpt (fun k => k ≠ m) w w' := ⟨h.os, h.tape, h.output, h.size, fun k hk hne => h.block k hk (fun e => hne (by cases e; rfl))⟩
/-- A number of ticks within its bounds. -/
def tkI (n : Int) : Int := if n < 0 then 0 else if 1073741824 < n then 1073741824 else n
theorem tkI_in (n : Int) : 0 ≤ tkI n ∧ tkI n ≤ 1073741824 := by
  unfold tkI
  split
  · omega
  · split <;> omega
theorem ticks_any (n : Int) (w : World) : Calls Try.prog 37 #[.int .i64 n] w fun e w' => e = .returned (.int .i64 (tkI n)) ∧ w = w' := by
  have HT := Kp.mk (show tkI n = if n < 0 then 0 else if 1073741824 < n then 1073741824 else n from rfl)
  generalize tkI n = T at *
  by_cases h0 : n < 0
  · have hT := HT.out.trans (if_pos h0)
    have q1 : ¬ (1073741824 : Int) < n := by omega
    have q2 : n < 1073741824 := by omega
    have q3 : ¬ (0 : Int) < n := by omega
    have q4 : ¬ (0 : Int) ≤ n := by omega
    subst hT
    go_enter Try.func37, Try.ntmps37
    go_wp2_with fail
    go_ret
    first | exact ⟨rfl, rfl⟩ | (refine ⟨?_, rfl⟩; congr 2; omega)
  · by_cases h1 : 1073741824 < n
    · have hT := HT.out.trans ((if_neg h0).trans (if_pos h1))
      have q2 : ¬ n < 1073741824 := by omega
      subst hT
      go_enter Try.func37, Try.ntmps37
      go_wp2_with fail
      go_ret
      first | exact ⟨rfl, rfl⟩ | (refine ⟨?_, rfl⟩; congr 2; omega)
    · have hT := HT.out.trans ((if_neg h0).trans (if_neg h1))
      have q4 : (0 : Int) ≤ n := by omega
      subst hT
      go_enter Try.func37, Try.ntmps37
      go_wp2_with fail
      all_goals
        go_ret
        first
          | exact ⟨rfl, rfl⟩
          | (have e : T = 0 := by omega
             subst e
             exact ⟨rfl, rfl⟩)
/- now -/
theorem cnow_any (b m n : Nat) (now : Int) (F : Int → Option Int) (w : World) (h : CK b m n now F w) : Calls Try.prog 18 #[.pointer (some ⟨b, 0, none⟩)] w fun e w' => e = .returned (.int .i64 now) ∧ w = w' := by
  have c0 := blk_cell (i := 0) h.hb rfl
  clear h
  go_enter Try.func18, Try.ntmps18
  go_wp2_with fail
  go_ret
  exact ⟨rfl, rfl⟩
/-- A new clock. -/
def NewC (now : Int) (w : World) (e : Ending) (w' : World) : Prop := ∃ b m, e = .returned (.pointer (some ⟨b, 0, none⟩)) ∧ CK b m 0 now (fun _ => none) w' ∧ Below w.heap.size w w' ∧ w.heap.size ≤ b ∧ w.heap.size ≤ m
theorem cnew_any (now : Int) (w : World) (h1 : -281474976710656 ≤ now) (h2 : now ≤ 281474976710656) : Calls Try.prog 7 #[.int .i64 now] w (NewC now w) := by
  have q1 : ¬ now < -281474976710656 := by omega
  have q2 : ¬ (281474976710656 : Int) < now := by omega
  have hmk : ∀ w : World, (Instr.makeMap 80 none).run Try.prog w = .ok (.map (some w.heap.size)) (w.alloc (.map #[] 0)) := fun w => by kernel_rfl
  clear h1 h2
  go_enter Try.func7, Try.ntmps7
  go_wp2_with fail
  go_ret
  have e1 : (w.alloc (.map #[] 0)).heap.size = w.heap.size + 1 := World.size_alloc _ _
  have k1 := heap_alloc_new (w.alloc (.map #[] 0)) (.cells #[.int .i64 now, .map (some w.heap.size)] 82)
  rw [e1] at k1
  exact ⟨w.heap.size + 1, w.heap.size, rfl, ⟨k1, ⟨_, (World.ownsMap_made w Try.prog 3 (plainElem Try.prog 3)).alloc _, FD.start⟩, by omega⟩, ((Below.refl _ _).alloc (Nat.le_refl _) _).alloc (by rw [e1]; omega) _, by omega, Nat.le_refl _⟩
theorem cnew_far (now : Int) (w : World) (h : now < -281474976710656 ∨ 281474976710656 < now) : Calls Try.prog 7 #[.int .i64 now] w fun e w' => e = .returned (.pointer none) ∧ w = w' := by
  by_cases q1 : now < -281474976710656
  · go_enter Try.func7, Try.ntmps7
    go_wp2_with fail
    go_ret
    exact ⟨rfl, rfl⟩
  · have q2 : (281474976710656 : Int) < now := by omega
    go_enter Try.func7, Try.ntmps7
    go_wp2_with fail
    go_ret
    exact ⟨rfl, rfl⟩
end Go.Proofs.Ytpgnekejemockaa
