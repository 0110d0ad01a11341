/- Layer 9: a field's line, whether a field is right; the law FieldParses. -/
import Derived.Test.YtcbfhlnnfnpkdaaGreatDoorFla
import Derived.Test.YtcbfhlnnfnpkdaaGreatDoorQs
import Derived.Deep.DeepCutAuto
namespace Go.Proofs.YtcbfhlnnfnpkdaaGreatDoor
open Go.RowKit
set_option linter.unusedVariables false
set_option linter.unusedSimpArgs false

def fLine (n v : ByteArray) : ByteArray := if v.size = 0 then n ++ ⟨#[58]⟩ else n ++ ⟨#[58, 32]⟩ ++ v
def fRight (n v : ByteArray) : Bool := tokenB n && (allB valueB v && ((trimB v).toList == v.toList))
theorem emp_ne {v : ByteArray} (h : v.size ≠ 0) : v.toList.isEmpty = false ∧ ¬ (v.toList = []) := by
  have h1 : v.toList ≠ [] := fun e => by
    rw [ByteArray.toList_eq] at e
    rw [ba_size', e] at h
    exact h rfl
  exact ⟨by cases hv : v.toList with | nil => exact absurd hv h1 | cons a b => rfl, h1⟩
theorem emp_of {v : ByteArray} (h : v.size = 0) : v = ⟨#[]⟩ := by
  rw [ba_size'] at h
  have := List.length_eq_zero_iff.1 h
  cases v with | mk d => simp at this; rw [this]
set_option maxRecDepth 100000 in
set_option maxHeartbeats 1000000 in
theorem fline_any (n v : ByteArray) (w : World) (hn : n.size ≤ 1000000) (hv : v.size ≤ 1000000) :
    Calls Tryz.prog 38 #[.agg #[.string n, .string v]] w fun e w' => e = .returned (.string (fLine n v)) ∧ Below w.heap.size w w' := by
  by_cases h0 : v.size = 0
  · obtain rfl := emp_of h0
    have HL := Kp.mk (show fLine n ⟨#[]⟩ = n ++ ⟨#[58]⟩ from if_pos rfl)
    clear h0
    go_enter Tryz.func38, Tryz.ntmps38
    go_wp2_with fail
    go_ret
    exact ⟨by rw [HL.out]; rfl, (Below.refl _ _).alloc (Nat.le_refl _) _⟩
  · have HL := Kp.mk (show fLine n v = n ++ ⟨#[58, 32]⟩ ++ v from if_neg h0)
    have HM := Kp.mk (show n ++ ⟨#[58]⟩ ++ ⟨#[32]⟩ ++ v = n ++ ⟨#[58, 32]⟩ ++ v from by
      refine ba_ext_l ?_
      simp only [ByteArray.toList_eq, cat_app, List.append_assoc]
      rfl)
    obtain ⟨e1, e2⟩ := emp_ne h0
    clear h0
    go_enter Tryz.func38, Tryz.ntmps38
    go_wp2_with fail
    go_ret
    exact ⟨by rw [HL.out]; first | rfl | (rw [← HM.out]; rfl), (Below.refl _ _).alloc (Nat.le_refl _) _⟩
set_option maxRecDepth 100000 in
set_option maxHeartbeats 1000000 in
theorem rfline_any (n v : ByteArray) (w : World) (hn : n.size ≤ 1000000) (hv : v.size ≤ 1000000) :
    Calls Tryz.prog 41 #[.agg #[.string n, .string v]] w fun e w' => e = .returned (.string (fLine n v)) ∧ Below w.heap.size w w' := by
  by_cases h0 : v.size = 0
  · obtain rfl := emp_of h0
    have HL := Kp.mk (show fLine n ⟨#[]⟩ = n ++ ⟨#[58]⟩ from if_pos rfl)
    clear h0
    go_enter Tryz.func41, Tryz.ntmps41
    go_wp2_with fail
    go_ret
    exact ⟨by rw [HL.out]; rfl, (Below.refl _ _).alloc (Nat.le_refl _) _⟩
  · have HL := Kp.mk (show fLine n v = n ++ ⟨#[58, 32]⟩ ++ v from if_neg h0)
    have HM := Kp.mk (show n ++ ⟨#[58]⟩ ++ ⟨#[32]⟩ ++ v = n ++ ⟨#[58, 32]⟩ ++ v from by
      refine ba_ext_l ?_
      simp only [ByteArray.toList_eq, cat_app, List.append_assoc]
      rfl)
    obtain ⟨e1, e2⟩ := emp_ne h0
    clear h0
    go_enter Tryz.func41, Tryz.ntmps41
    go_wp2_with fail
    go_ret
    exact ⟨by rw [HL.out]; first | rfl | (rw [← HM.out]; rfl), (Below.refl _ _).alloc (Nat.le_refl _) _⟩
/-- A field lies in the block B, all else is as it was. -/
structure FBx (B : Nat) (n v : ByteArray) (w w' : World) : Prop where
  box : w'.heap[B]? = some (.cells #[.string n, .string v] 67 (0, 0))
  bel : Below w.heap.size w w'
theorem FBx.below {B : Nat} {n v : ByteArray} {w w' w2 : World} (h : FBx B n v w w') (hb : Below w'.heap.size w' w2) : FBx B n v w w2 := ⟨(hb.block B (blk_lt h.box)).trans h.box, h.bel.trans (hb.mono h.bel.size)⟩
theorem FBx.new (n v : ByteArray) (w : World) : FBx w.heap.size n v w (w.alloc (.cells #[.string n, .string v] 67)) := ⟨heap_alloc_new w _, (Below.refl _ _).alloc (Nat.le_refl _) _⟩
set_option maxRecDepth 100000 in
set_option maxHeartbeats 2000000 in
theorem fright_any (n v : ByteArray) (w : World) (hn : n.size ≤ 1000000) (hv : v.size ≤ 1000000) :
    Calls Tryz.prog 46 #[.agg #[.string n, .string v]] w fun e w' => e = .returned (.bool (fRight n v)) ∧ Below w.heap.size w w' := by
  have HS := Kp.mk ((FBx.new n v w).below (gdrewN _ 1))
  have p0 := fun p : InS (FBx w.heap.size n v w) => blk_cell (i := 0) p.ok.box rfl
  have p1 := fun p : InS (FBx w.heap.size n v w) => blk_cell (i := 1) p.ok.box rfl
  haveI hne : Nonempty (InS (FBx w.heap.size n v w)) := ⟨⟨_, FBx.new n v w⟩⟩
  have hn2 : n.size ≤ maxLen := by unfold maxLen; omega
  have hv2 : v.size ≤ maxLen := by unfold maxLen; omega
  have hR : (tokenB n = false ∧ fRight n v = false) ∨ (tokenB n = true ∧ allB valueB v = false ∧ fRight n v = false) ∨ (tokenB n = true ∧ allB valueB v = true ∧ fRight n v = ((trimB v).toList == v.toList)) := by
    unfold fRight
    cases tokenB n <;> cases allB valueB v <;> simp
  rcases hR with ⟨h1, h2⟩ | ⟨h1, h3, h2⟩ | ⟨h1, h3, h2⟩
  all_goals
    have HR := Kp.mk h2
    clear h2
    go_enter Tryz.func46, Tryz.ntmps46
    go_wp2_with fail
    refine region_in _ (by kernel_rfl) (by kernel_rfl) HS.out ?_
    repeat (go_big_quiet_step (first | (go_at_call 42; exact call_in fun w h => (oct_token_any _ _ hn2).mono fun _ _ h2 => ⟨h2.1.trans (by rw [h1]), h.below h2.2⟩) | (go_at_call 44; exact call_in fun w h => (oct_value_any _ _ hv2).mono fun _ _ h2 => ⟨h2.1.trans (by rw [h3]), h.below h2.2⟩) | (go_at_call 95; exact call_in fun w h => (oct_trim_any _ _ hv2).mono fun _ _ h2 => ⟨h2.1, h.below h2.2⟩)))
    refine wpQuiet_nil ?_
    intro _ hw'
    obtain ⟨wq, rfl⟩ := hw'
    go_wp2_with fail
    go_ret
    exact ⟨by rw [HR.out]; rfl, wq.ok.bel⟩
set_option maxRecDepth 100000 in
set_option maxHeartbeats 2000000 in
theorem rfright_any (n v : ByteArray) (w : World) (hn : n.size ≤ 1000000) (hv : v.size ≤ 1000000) :
    Calls Tryz.prog 51 #[.agg #[.string n, .string v]] w fun e w' => e = .returned (.bool (fRight n v)) ∧ Below w.heap.size w w' := by
  have HS := Kp.mk ((FBx.new n v w).below (gdrewN _ 1))
  have p0 := fun p : InS (FBx w.heap.size n v w) => blk_cell (i := 0) p.ok.box rfl
  have p1 := fun p : InS (FBx w.heap.size n v w) => blk_cell (i := 1) p.ok.box rfl
  haveI hne : Nonempty (InS (FBx w.heap.size n v w)) := ⟨⟨_, FBx.new n v w⟩⟩
  have hn2 : n.size ≤ maxLen := by unfold maxLen; omega
  have hv2 : v.size ≤ maxLen := by unfold maxLen; omega
  have hR : (tokenB n = false ∧ fRight n v = false) ∨ (tokenB n = true ∧ allB valueB v = false ∧ fRight n v = false) ∨ (tokenB n = true ∧ allB valueB v = true ∧ fRight n v = ((trimB v).toList == v.toList)) := by
    unfold fRight
    cases tokenB n <;> cases allB valueB v <;> simp
  rcases hR with ⟨h1, h2⟩ | ⟨h1, h3, h2⟩ | ⟨h1, h3, h2⟩
  all_goals
    have HR := Kp.mk h2
    clear h2
    go_enter Tryz.func51, Tryz.ntmps51
    go_wp2_with fail
    refine region_in _ (by kernel_rfl) (by kernel_rfl) HS.out ?_
    repeat (go_big_quiet_step (first | (go_at_call 48; exact call_in fun w h => (ref_token_any _ _ hn2).mono fun _ _ h2 => ⟨h2.1.trans (by rw [h1]), h2.2 ▸ h⟩) | (go_at_call 50; exact call_in fun w h => (ref_value_any _ _ hv2).mono fun _ _ h2 => ⟨h2.1.trans (by rw [h3]), h2.2 ▸ h⟩) | (go_at_call 98; exact call_in fun w h => (ref_trim_any _ _ hv2).mono fun _ _ h2 => ⟨h2.1, h2.2 ▸ h⟩)))
    refine wpQuiet_nil ?_
    intro _ hw'
    obtain ⟨wq, rfl⟩ := hw'
    go_wp2_with fail
    go_ret
    exact ⟨by rw [HR.out]; rfl, wq.ok.bel⟩
/-- The three fields beside one another. -/
structure FBx3 (B C D : Nat) (n v n2 v2 : ByteArray) (w w' : World) : Prop where
  box : w'.heap[B]? = some (.cells #[.string n, .string v] 67 (0, 0))
  box2 : w'.heap[C]? = some (.cells #[.string n2, .string v2] 67 (0, 0))
  box3 : w'.heap[D]? = some (.cells #[.string n2, .string v2] 67 (0, 0))
  bel : Below w.heap.size w w'
theorem FBx3.below {B C D : Nat} {n v n2 v2 : ByteArray} {w w' w2 : World} (h : FBx3 B C D n v n2 v2 w w') (hb : Below w'.heap.size w' w2) : FBx3 B C D n v n2 v2 w w2 :=
  ⟨(hb.block B (blk_lt h.box)).trans h.box, (hb.block C (blk_lt h.box2)).trans h.box2, (hb.block D (blk_lt h.box3)).trans h.box3, h.bel.trans (hb.mono h.bel.size)⟩
def FMid (w : World) (s : Value) (wx : World) : Prop := ∃ x n v : ByteArray, s = .string x ∧ x.size ≤ 1000 ∧ n.size ≤ 300 ∧ v.size ≤ 1000 ∧ FBx w.heap.size n v w wx
theorem ext_to (s : ByteArray) (n : Nat) : (s.extract 0 n).size ≤ n := by rw [ba_size', Lib.extract_data]; simp; omega
end Go.Proofs.YtcbfhlnnfnpkdaaGreatDoor
