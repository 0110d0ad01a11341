/- Layer 9: a field's line, whether a field is right; the law FieldParses. -/
import Derived.Test.YtlgeebclphcnjaaFla
import Derived.Test.YtlgeebclphcnjaaQs
import Derived.Deep.DeepCutAuto
namespace Go.Proofs.Ytlgeebclphcnjaa
open Go.RowKit
set_option linter.unusedVariables false
set_option linter.unusedSimpArgs false

def fLine (n v : ByteArray) : ByteArray := if v.size = 0 then n ++ ⟨#[58]⟩ else n ++ ⟨#[58, 32]⟩ ++ v
def fRight (n v : ByteArray) : Bool := tokenB n && (allB valueB v && ((trimB v).toList == v.toList))
theorem emp_ne {v : ByteArray} (h : v.size ≠ 0) : v.toList.isEmpty = false ∧ ¬ (v.toList = []) := by
  have h1 : v.toList ≠ [] := fun e => by
    rw [ByteArray.toList_eq] at e
    rw [ba_size', e] at h
    exact h rfl
  exact ⟨by cases hv : v.toList with | nil => exact absurd hv h1 | cons a b => rfl, h1⟩
theorem emp_of {v : ByteArray} (h : v.size = 0) : v = ⟨#[]⟩ := by
  rw [ba_size'] at h
  have := List.length_eq_zero_iff.1 h
  cases v with | mk d => simp at this; rw [this]
set_option maxRecDepth 100000 in
set_option maxHeartbeats 1000000 in
theorem fline_any (n v : ByteArray) (w : World) (hn : n.size ≤ 1000000) (hv : v.size ≤ 1000000) :
    Calls Try.prog 50 #[.agg #[.string n, .string v]] w fun e w' => e = .returned (.string (fLine n v)) ∧ Below w.heap.size w w' := by
  by_cases h0 : v.size = 0
  · obtain rfl := emp_of h0
    have HL := Kp.mk (show fLine n ⟨#[]⟩ = n ++ ⟨#[58]⟩ from if_pos rfl)
    clear h0
    go_enter Try.func50, Try.ntmps50
    go_wp2_with fail
    go_ret
    exact ⟨by rw [HL.out]; rfl, (Below.refl _ _).alloc (Nat.le_refl _) _⟩
  · have HL := Kp.mk (show fLine n v = n ++ ⟨#[58, 32]⟩ ++ v from if_neg h0)
    have HM := Kp.mk (show n ++ ⟨#[58]⟩ ++ ⟨#[32]⟩ ++ v = n ++ ⟨#[58, 32]⟩ ++ v from by
      refine ba_ext_l ?_
      simp only [ByteArray.toList_eq, cat_app, List.append_assoc]
      rfl)
    obtain ⟨e1, e2⟩ := emp_ne h0
    clear h0
    go_enter Try.func50, Try.ntmps50
    go_wp2_with fail
    go_ret
    exact ⟨by rw [HL.out]; first | rfl | (rw [← HM.out]; rfl), (Below.refl _ _).alloc (Nat.le_refl _) _⟩
set_option maxRecDepth 100000 in
set_option maxHeartbeats 1000000 in
theorem rfline_any (n v : ByteArray) (w : World) (hn : n.size ≤ 1000000) (hv : v.size ≤ 1000000) :
    Calls Try.prog 51 #[.agg #[.string n, .string v]] w fun e w' => e = .returned (.string (fLine n v)) ∧ Below w.heap.size w w' := by
  by_cases h0 : v.size = 0
  · obtain rfl := emp_of h0
    have HL := Kp.mk (show fLine n ⟨#[]⟩ = n ++ ⟨#[58]⟩ from if_pos rfl)
    clear h0
    go_enter Try.func51, Try.ntmps51
    go_wp2_with fail
    go_ret
    exact ⟨by rw [HL.out]; rfl, (Below.refl _ _).alloc (Nat.le_refl _) _⟩
  · have HL := Kp.mk (show fLine n v = n ++ ⟨#[58, 32]⟩ ++ v from if_neg h0)
    have HM := Kp.mk (show n ++ ⟨#[58]⟩ ++ ⟨#[32]⟩ ++ v = n ++ ⟨#[58, 32]⟩ ++ v from by
      refine ba_ext_l ?_
      simp only [ByteArray.toList_eq, cat_app, List.append_assoc]
      rfl)
    obtain ⟨e1, e2⟩ := emp_ne h0
    clear h0
    go_enter Try.func51, Try.ntmps51
    go_wp2_with fail
    go_ret
    exact ⟨by rw [HL.out]; first | rfl | (rw [← HM.out]; rfl), (Below.refl _ _).alloc (Nat.le_refl _) _⟩
/-- A field lies in the block B, all else is as it was. -/
structure FBx (B : Nat) (n v : ByteArray) (w w' : World) : Prop where
  box : w'.heap[B]? = some (.cells #[.string n, .string v] 75 (0, 0))
  bel : Below w.heap.size w w'
theorem FBx.below {B : Nat} {n v : ByteArray} {w w' w2 : World} (h : FBx B n v w w') (hb : Below w'.heap.size w' w2) : FBx B n v w w2 := ⟨(hb.block B (blk_lt h.box)).trans h.box, h.bel.trans (hb.mono h.bel.size)⟩
theorem FBx.new (n v : ByteArray) (w : World) : FBx w.heap.size n v w (w.alloc (.cells #[.string n, .string v] 75)) := ⟨heap_alloc_new w _, (Below.refl _ _).alloc (Nat.le_refl _) _⟩
set_option maxRecDepth 100000 in
set_option maxHeartbeats 2000000 in
theorem fright_any (n v : ByteArray) (w : World) (hn : n.size ≤ 1000000) (hv : v.size ≤ 1000000) :
    Calls Try.prog 52 #[.agg #[.string n, .string v]] w fun e w' => e = .returned (.bool (fRight n v)) ∧ Below w.heap.size w w' := by
  have HS := Kp.mk ((FBx.new n v w).below (gdrewN _ 1))
  have p0 := fun p : InS (FBx w.heap.size n v w) => blk_cell (i := 0) p.ok.box rfl
  have p1 := fun p : InS (FBx w.heap.size n v w) => blk_cell (i := 1) p.ok.box rfl
  haveI hne : Nonempty (InS (FBx w.heap.size n v w)) := ⟨⟨_, FBx.new n v w⟩⟩
  have hn2 : n.size ≤ maxLen := by unfold maxLen; omega
  have hv2 : v.size ≤ maxLen := by unfold maxLen; omega
  have hR : (tokenB n = false ∧ fRight n v = false) ∨ (tokenB n = true ∧ allB valueB v = false ∧ fRight n v = false) ∨ (tokenB n = true ∧ allB valueB v = true ∧ fRight n v = ((trimB v).toList == v.toList)) := by
    unfold fRight
    cases tokenB n <;> cases allB valueB v <;> simp
  rcases hR with ⟨h1, h2⟩ | ⟨h1, h3, h2⟩ | ⟨h1, h3, h2⟩
  all_goals
    have HR := Kp.mk h2
    clear h2
    go_enter Try.func52, Try.ntmps52
    go_wp2_with fail
    refine region_in _ (by kernel_rfl) (by kernel_rfl) HS.out ?_
    repeat (go_big_quiet_step (first | (go_at_call 85; exact call_in fun w h => (oct_token_any _ _ hn2).mono fun _ _ h2 => ⟨h2.1.trans (by rw [h1]), h.below h2.2⟩) | (go_at_call 86; exact call_in fun w h => (oct_value_any _ _ hv2).mono fun _ _ h2 => ⟨h2.1.trans (by rw [h3]), h.below h2.2⟩) | (go_at_call 87; exact call_in fun w h => (oct_trim_any _ _ hv2).mono fun _ _ h2 => ⟨h2.1, h.below h2.2⟩)))
    refine wpQuiet_nil ?_
    intro _ hw'
    obtain ⟨wq, rfl⟩ := hw'
    go_wp2_with fail
    go_ret
    exact ⟨by rw [HR.out]; rfl, wq.ok.bel⟩
set_option maxRecDepth 100000 in
set_option maxHeartbeats 2000000 in
theorem rfright_any (n v : ByteArray) (w : World) (hn : n.size ≤ 1000000) (hv : v.size ≤ 1000000) :
    Calls Try.prog 53 #[.agg #[.string n, .string v]] w fun e w' => e = .returned (.bool (fRight n v)) ∧ Below w.heap.size w w' := by
  have HS := Kp.mk ((FBx.new n v w).below (gdrewN _ 1))
  have p0 := fun p : InS (FBx w.heap.size n v w) => blk_cell (i := 0) p.ok.box rfl
  have p1 := fun p : InS (FBx w.heap.size n v w) => blk_cell (i := 1) p.ok.box rfl
  haveI hne : Nonempty (InS (FBx w.heap.size n v w)) := ⟨⟨_, FBx.new n v w⟩⟩
  have hn2 : n.size ≤ maxLen := by unfold maxLen; omega
  have hv2 : v.size ≤ maxLen := by unfold maxLen; omega
  have hR : (tokenB n = false ∧ fRight n v = false) ∨ (tokenB n = true ∧ allB valueB v = false ∧ fRight n v = false) ∨ (tokenB n = true ∧ allB valueB v = true ∧ fRight n v = ((trimB v).toList == v.toList)) := by
    unfold fRight
    cases tokenB n <;> cases allB valueB v <;> simp
  rcases hR with ⟨h1, h2⟩ | ⟨h1, h3, h2⟩ | ⟨h1, h3, h2⟩
  all_goals
    have HR := Kp.mk h2
    clear h2
    go_enter Try.func53, Try.ntmps53
    go_wp2_with fail
    refine region_in _ (by kernel_rfl) (by kernel_rfl) HS.out ?_
    repeat (go_big_quiet_step (first | (go_at_call 88; exact call_in fun w h => (ref_token_any _ _ hn2).mono fun _ _ h2 => ⟨h2.1.trans (by rw [h1]), h2.2 ▸ h⟩) | (go_at_call 89; exact call_in fun w h => (ref_value_any _ _ hv2).mono fun _ _ h2 => ⟨h2.1.trans (by rw [h3]), h2.2 ▸ h⟩) | (go_at_call 71; exact call_in fun w h => (ref_trim_any _ _ hv2).mono fun _ _ h2 => ⟨h2.1, h2.2 ▸ h⟩)))
    refine wpQuiet_nil ?_
    intro _ hw'
    obtain ⟨wq, rfl⟩ := hw'
    go_wp2_with fail
    go_ret
    exact ⟨by rw [HR.out]; rfl, wq.ok.bel⟩
set_option maxRecDepth 100000 in
set_option maxHeartbeats 2000000 in
theorem lives9_any (w : World) :
    Calls Try.prog 54 #[] w fun e w' => e = .returned (.bool true) ∧ Below w.heap.size w w' := by
  have a1 : fldN ⟨#[72, 111, 115, 116, 58, 32, 32, 97, 32]⟩ = ⟨#[72, 111, 115, 116]⟩ ∧ fldV ⟨#[72, 111, 115, 116, 58, 32, 32, 97, 32]⟩ = ⟨#[97]⟩ ∧ fldE ⟨#[72, 111, 115, 116, 58, 32, 32, 97, 32]⟩ = 0 := by decide +kernel
  have a2 : fldN ⟨#[72, 111, 115, 116, 32, 58, 32, 97]⟩ = ⟨#[]⟩ ∧ fldV ⟨#[72, 111, 115, 116, 32, 58, 32, 97]⟩ = ⟨#[]⟩ ∧ fldE ⟨#[72, 111, 115, 116, 32, 58, 32, 97]⟩ = 6 := by decide +kernel
  have a3 : fLine ⟨#[72, 111, 115, 116]⟩ ⟨#[97]⟩ = ⟨#[72, 111, 115, 116, 58, 32, 97]⟩ ∧ fLine ⟨#[65]⟩ ⟨#[]⟩ = ⟨#[65, 58]⟩ := by decide +kernel
  have A1 := Kp.mk a1
  have A2 := Kp.mk a2
  have A3 := Kp.mk a3
  clear a1 a2 a3
  go_enter Try.func54, Try.ntmps54
  go_wp2_with fail
  refine (fparse_any _ _ (by decide)).mono ?_
  rintro e w1 ⟨rfl, hb1⟩
  rw [A1.out.1, A1.out.2.1, A1.out.2.2]
  have HB1 := Kp.mk hb1
  clear hb1
  have HBX := Kp.mk (FBx.new ⟨#[72, 111, 115, 116]⟩ ⟨#[97]⟩ w1)
  go_wp2_with fail
  refine (fparse_any _ _ (by decide)).mono ?_
  rintro e w2 ⟨rfl, hb2⟩
  rw [A2.out.1, A2.out.2.1, A2.out.2.2]
  have HX2 := Kp.mk (HBX.out.below hb2)
  have HX3 := Kp.mk (HX2.out.below ((Below.refl _ _).alloc (Nat.le_refl _) (.cells #[.string ⟨#[]⟩, .string ⟨#[]⟩] 75)))
  have x0 := blk_cell (i := 0) HX3.out.box rfl
  have x1 := blk_cell (i := 1) HX3.out.box rfl
  clear hb2
  go_wp2_with fail
  refine (fline_any _ _ _ (by decide) (by decide)).mono ?_
  rintro e w3 ⟨rfl, hb3⟩
  rw [A3.out.1]
  have HX4 := Kp.mk (HX3.out.below hb3)
  clear hb3
  go_wp2_with fail
  refine (fline_any _ _ _ (by decide) (by decide)).mono ?_
  rintro e w4 ⟨rfl, hb4⟩
  rw [A3.out.2]
  have HX5 := Kp.mk (HX4.out.below hb4)
  clear hb4
  go_wp2_with fail
  go_ret
  exact ⟨rfl, HB1.out.trans (HX5.out.bel.mono HB1.out.size)⟩
/-- The three fields beside one another. -/
structure FBx3 (B C D : Nat) (n v n2 v2 : ByteArray) (w w' : World) : Prop where
  box : w'.heap[B]? = some (.cells #[.string n, .string v] 75 (0, 0))
  box2 : w'.heap[C]? = some (.cells #[.string n2, .string v2] 75 (0, 0))
  box3 : w'.heap[D]? = some (.cells #[.string n2, .string v2] 75 (0, 0))
  bel : Below w.heap.size w w'
theorem FBx3.below {B C D : Nat} {n v n2 v2 : ByteArray} {w w' w2 : World} (h : FBx3 B C D n v n2 v2 w w') (hb : Below w'.heap.size w' w2) : FBx3 B C D n v n2 v2 w w2 :=
  ⟨(hb.block B (blk_lt h.box)).trans h.box, (hb.block C (blk_lt h.box2)).trans h.box2, (hb.block D (blk_lt h.box3)).trans h.box3, h.bel.trans (hb.mono h.bel.size)⟩
def FMid (w : World) (s : Value) (wx : World) : Prop := ∃ x n v : ByteArray, s = .string x ∧ x.size ≤ 1000 ∧ n.size ≤ 300 ∧ v.size ≤ 1000 ∧ FBx w.heap.size n v w wx
theorem ext_to (s : ByteArray) (n : Nat) : (s.extract 0 n).size ≤ n := by rw [ba_size', Lib.extract_data]; simp; omega
set_option maxRecDepth 100000 in
set_option maxHeartbeats 8000000 in
theorem fparses_walk (s n0 v0 : ByteArray) (w : World) (hs : s.size ≤ maxLen) (hn : n0.size ≤ maxLen) (hv : v0.size ≤ maxLen) :
    Calls Try.prog 12 #[.string s, .agg #[.string n0, .string v0]] w fun e w' => e = .returned (.bool true) ∧ Below w.heap.size w w' := by
  unfold maxLen at hs hn hv
  go_enter Try.func12, Try.ntmps12
  go_upto_region 3 with fail
  go_cut [0] (FMid w)
  case first =>
    have e1 := ext_to s 1000
    have e2 := ext_to n0 300
    have e3 := ext_to v0 1000
    have E1 := Kp.mk e1
    have E2 := Kp.mk e2
    have E3 := Kp.mk e3
    clear e1 e2 e3
    by_cases h1 : s.size ≤ 1000 <;> by_cases h2 : n0.size ≤ 300 <;> by_cases h3 : v0.size ≤ 1000
    all_goals
      go_wp2_with fail
      go_meet
      exact ⟨_, _, _, rfl, by first | assumption | exact E1.out, by first | assumption | exact E2.out, by first | assumption | exact E3.out, FBx.new _ _ w⟩
  case rest =>
    obtain ⟨x, n, v, rfl, hx, hn, hv, hbx⟩ := hcut
    have HX := Kp.mk hbx
    clear hbx
    go_wp2_with fail
    refine (fparse_any _ _ (by omega)).mono ?_
    rintro e w1 ⟨rfl, hb1⟩
    have HX1 := Kp.mk (HX.out.below hb1)
    have hl1 := blk_lt HX1.out.box
    clear hb1
    go_wp2_with fail
    refine (rfparse_any _ _ (by omega)).mono ?_
    rintro e w2 ⟨rfl, hb2⟩
    have hl2 : w1.heap.size < w2.heap.size := by have := hb2.size; simp at this; omega
    have HX2 := Kp.mk (show FBx3 w.heap.size w1.heap.size w2.heap.size n v (fldN x) (fldV x) w (w2.alloc (.cells #[.string (fldN x), .string (fldV x)] 75)) from by
      have h5 := HX1.out.below ((Below.refl _ _).alloc (Nat.le_refl _) (.cells #[.string (fldN x), .string (fldV x)] 75))
      have h6 := h5.below hb2
      have h7 := h6.below ((Below.refl _ _).alloc (Nat.le_refl _) (.cells #[.string (fldN x), .string (fldV x)] 75))
      exact ⟨h7.box, blk_alloc ((hb2.block w1.heap.size (by simp)).trans (heap_alloc_new w1 _)), heap_alloc_new w2 _, h7.bel⟩)
    clear hb2
    generalize fldN x = N at *
    generalize fldV x = V at *
    generalize fldE x = E at *
    have HD := Kp.mk (HX2.out.below (gdrewN _ 1))
    have p0 := fun p : InS (FBx3 w.heap.size w1.heap.size w2.heap.size n v N V w) => blk_cell (i := 0) p.ok.box rfl
    have p1 := fun p : InS (FBx3 w.heap.size w1.heap.size w2.heap.size n v N V w) => blk_cell (i := 1) p.ok.box rfl
    have p2 := fun p : InS (FBx3 w.heap.size w1.heap.size w2.heap.size n v N V w) => blk_cell (i := 0) p.ok.box2 rfl
    have p3 := fun p : InS (FBx3 w.heap.size w1.heap.size w2.heap.size n v N V w) => blk_cell (i := 1) p.ok.box2 rfl
    have p4 := fun p : InS (FBx3 w.heap.size w1.heap.size w2.heap.size n v N V w) => blk_cell (i := 0) p.ok.box3 rfl
    have p5 := fun p : InS (FBx3 w.heap.size w1.heap.size w2.heap.size n v N V w) => blk_cell (i := 1) p.ok.box3 rfl
    haveI hne : Nonempty (InS (FBx3 w.heap.size w1.heap.size w2.heap.size n v N V w)) := ⟨⟨_, HX2.out⟩⟩
    have hn2 : n.size ≤ 1000000 := by omega
    have hv2 : v.size ≤ 1000000 := by omega
    go_wp2_with fail
    refine region_in _ (by kernel_rfl) (by kernel_rfl) HD.out ?_
    repeat (go_big_quiet_step (first
      | (go_at_call 50; exact call_in fun w h => (fline_any _ _ _ hn2 hv2).mono fun _ _ h2 => ⟨h2.1, h.below h2.2⟩)
      | (go_at_call 51; exact call_in fun w h => (rfline_any _ _ _ hn2 hv2).mono fun _ _ h2 => ⟨h2.1, h.below h2.2⟩)
      | (go_at_call 52; exact call_in fun w h => (fright_any _ _ _ hn2 hv2).mono fun _ _ h2 => ⟨h2.1, h.below h2.2⟩)
      | (go_at_call 53; exact call_in fun w h => (rfright_any _ _ _ hn2 hv2).mono fun _ _ h2 => ⟨h2.1, h.below h2.2⟩)
      | (go_at_call 54; exact call_in fun w h => (lives9_any _).mono fun _ _ h2 => ⟨h2.1, h.below h2.2⟩)))
    refine wpQuiet_nil ?_
    intro _ hw'
    obtain ⟨wq, rfl⟩ := hw'
    go_wp2_with fail
    go_ret
    exact ⟨rfl, wq.ok.bel⟩
end Go.Proofs.Ytlgeebclphcnjaa
