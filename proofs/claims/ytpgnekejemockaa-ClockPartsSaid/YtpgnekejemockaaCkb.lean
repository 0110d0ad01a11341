/- Who is due (layer 41): a clock's Left, Stop and Set (bin/mkckb.py). -/
import Derived.Test.YtpgnekejemockaaCka
import Derived.Deep.RegionHeld3
namespace Go.Proofs.Ytpgnekejemockaa
open Go.RowKit
set_option linter.unusedVariables false
set_option linter.unusedSimpArgs false

theorem wpList_lookF {ops : Array Oper} {rest : List Oper} {o : Oper} {a : Act} {Q : Exit → Act → World → Prop} (w : World) (hg : o.guard = none) (mo x : Operand) (hop : o.op = Op.lookup 80 mo x true) (m n : Nat) (D : DataW Unit) (F : Int → Option Int)
    (hm : a.eval mo = .map (some m)) (hown : w.ownsMap (H := Unit) Try.prog 3 (plainElem Try.prog 3) m n D) (hF : FD D F) (id : Int) (hx : a.eval x = .int .i64 id) (hw : (Lit.int .i64 id).wf = true) (v : Int) (ok : Bool) (hv : (F id).getD 0 = v) (hok : (F id).isSome = ok)
    (hK : wpList Try.prog ops Q rest (a.put o.dst (.tuple #[.int .i64 v, .bool ok])) w) : wpList Try.prog ops Q (o :: rest) a w := by
  obtain ⟨h1, h2⟩ := hF id hw
  refine wpList_lookup_own_ok_int w hg mo x 80 hop 3 3 .i64 Try.keyI Try.underlying80 Try.underlying3 (Try.zeroI _) m n D hm hown _ _ hx (Maps.keyOf_int_mk Try.underlying3 hw) (fun c hat hwc => ?_)
  rw [h2, hv] at hat
  rw [h1, hok]
  cases hat
  exact hK
/-- In how many ticks one is due. -/
def lfV (F : Int → Option Int) (id now : Int) : Int := match F id with
  | none => 0
  | some v => v - now
theorem cleft_any (b m n : Nat) (now : Int) (F : Int → Option Int) (id : Int) (w : World) (h : CK b m n now F w) (hw : (Lit.int .i64 id).wf = true) (hB : ∀ v, F id = some v → -1000000000000000000 ≤ v - now ∧ v - now ≤ 1000000000000000000) :
    Calls Try.prog 13 #[.pointer (some ⟨b, 0, none⟩), .int .i64 id] w fun e w' => e = .returned (.tuple #[.int .i64 (lfV F id now), .bool (F id).isSome]) ∧ w = w' := by
  have c0 := blk_cell (i := 0) h.hb rfl
  have c1 := blk_cell (i := 1) h.hb rfl
  obtain ⟨D, h1, h2⟩ := h.hm
  have HO := Kp.mk h1
  have HF := Kp.mk h2
  have HW := Kp.mk hw
  unfold lfV
  clear h h1 h2 hw
  cases hf : F id with
  | none =>
    have HE := Kp.mk hf
    clear hf hB
    go_enter Try.func13, Try.ntmps13
    go_wp2_with (at_lookup; refine wpList_lookF _ rfl _ _ rfl m n D F rfl HO.out HF.out id rfl HW.out 0 false (by rw [HE.out]; rfl) (by rw [HE.out]; rfl) ?_)
    go_ret2
    exact ⟨rfl, rfl⟩
  | some v =>
    have HE := Kp.mk hf
    have hwr : IntKind.i64.wrap (v - now) = v - now := by
      have := hB v hf
      simp [IntKind.wrap, IntKind.signed, IntKind.bits, wrap64]; omega
    clear hf hB
    go_enter Try.func13, Try.ntmps13
    go_wp2_with (at_lookup; refine wpList_lookF _ rfl _ _ rfl m n D F rfl HO.out HF.out id rfl HW.out v true (by rw [HE.out]; rfl) (by rw [HE.out]; rfl) ?_)
    go_ret2
    exact ⟨rfl, rfl⟩
def StopC (b m n : Nat) (now : Int) (F : Int → Option Int) (id : Int) (w : World) (e : Ending) (w' : World) : Prop := (∃ v, e = .returned v) ∧ CK b m n now (delF F id) w' ∧ Kpt (fun k => k ≠ m) w w'
theorem cstop_any (b m n : Nat) (now : Int) (F : Int → Option Int) (id : Int) (w : World) (h : CK b m n now F w) (hw : (Lit.int .i64 id).wf = true) :
    Calls Try.prog 12 #[.pointer (some ⟨b, 0, none⟩), .int .i64 id] w (StopC b m n now F id w) := by
  have H := Kp.mk h
  have c1 := blk_cell (i := 1) h.hb rfl
  obtain ⟨D, h1, h2⟩ := h.hm
  have HO := Kp.mk h1
  have HF := Kp.mk h2
  have HW := Kp.mk hw
  clear h h1 h2 hw
  go_enter Try.func12, Try.ntmps12
  go_wp2_with (at_delete; refine wpList_delete_own _ rfl _ _ 80 3 rfl 3 Try.keyI Try.underlying80 _ m n D rfl HO.out _ _ rfl (Maps.keyOf_int_mk Try.underlying3 HW.out) ?_; intro w1 ho1 ht1; have HO1 := Kp.mk ho1; have HG1 := Kp.mk ht1.grown; clear ho1 ht1)
  first | go_end0 | refine bodyPost_ret (results_none rfl _ _ _) rfl ?_
  exact ⟨⟨_, rfl⟩, ⟨(HG1.out.block b (blk_lt H.out.hb) (fun e => H.out.ne (by cases e; rfl))).trans H.out.hb, ⟨_, HO1.out, HF.out.del id⟩, H.out.ne⟩, kpt_grown HG1.out⟩
theorem isKeyI (id : Int) : WideAt.IsKeyLit (.int .i64 id) := by first | trivial | simp [WideAt.IsKeyLit]
theorem op_setF {ops : Array Oper} {o : Oper} {a : Act} {w : World} {K : Act → World → Prop} {Q : Exit → Act → World → Prop} (hgd : o.guard = none) (mo x v : Operand) (hop : o.op = Op.mapUpdate 80 mo x v) (m n : Nat) (D : DataW Unit) (F : Int → Option Int)
    (hm : a.eval mo = .map (some m)) (hown : w.ownsMap (H := Unit) Try.prog 3 (plainElem Try.prog 3) m n D) (hF : FD D F) (hn : n < maxLen) (id y : Int) (hx : a.eval x = .int .i64 id) (hv : a.eval v = .int .i64 y) (hw : (Lit.int .i64 id).wf = true) (hy : (Lit.int .i64 y).wf = true)
    (h : ∀ w' D', w'.ownsMap (H := Unit) Try.prog 3 (plainElem Try.prog 3) m (n + 1) D' → FD D' (setF F id y) → w.grownBy w' (some m) → K (a.put o.dst undef) w') :
    if Region.wanted o (yielded ops a.tmps) = true then Oper.wp Try.prog o a w K Q else K (a.put o.dst undef) w := by
  rw [if_pos (by simp only [Region.wanted, hgd])]
  obtain ⟨w', hrun, r1, r2⟩ := hown.update Try.keyI Try.underlying80 hn (Maps.keyOf_int_mk Try.underlying3 hw) (plainElem_int Try.underlying3 hy)
  unfold Oper.wp
  simp [execOp, hop, hm, hx, hv, hrun, Result.andThen]
  exact h _ _ r1 (hF.put hown.isMap id y (isKeyI id)) r2
def SetC (b m n : Nat) (now : Int) (F : Int → Option Int) (id k : Int) (w : World) (e : Ending) (w' : World) : Prop := (∃ v, e = .returned v) ∧ CK b m (n + 1) now (setF F id (now + tkI k)) w' ∧ Kpt (fun k => k ≠ m) w w'
set_option maxRecDepth 100000 in
set_option maxHeartbeats 1000000 in
theorem cset_any (b m n : Nat) (now : Int) (F : Int → Option Int) (id k : Int) (w : World) (h : CK b m n now F w) (hw : (Lit.int .i64 id).wf = true) (hn : n < maxLen) (hB : -1000000000000000000 ≤ now ∧ now ≤ 1000000000000000000) :
    Calls Try.prog 9 #[.pointer (some ⟨b, 0, none⟩), .int .i64 id, .int .i64 k] w (SetC b m n now F id k w) := by
  have H := Kp.mk h
  have c0 := blk_cell (i := 0) h.hb rfl
  have c1 := blk_cell (i := 1) h.hb rfl
  obtain ⟨D, h1, h2⟩ := h.hm
  have HO := Kp.mk h1
  have HF := Kp.mk h2
  have HW := Kp.mk hw
  have HN := Kp.mk hn
  have HT := Kp.mk (fun w => ticks_any k w)
  have ht := tkI_in k
  unfold SetC
  generalize tkI k = T at *
  have hwr : IntKind.i64.wrap (now + T) = now + T := by
    simp [IntKind.wrap, IntKind.signed, IntKind.bits, wrap64]; omega
  have HY := Kp.mk (show (Lit.int .i64 (now + T)).wf = true by simp [Lit.wf, IntKind.min, IntKind.max, IntKind.signed, IntKind.bits]; omega)
  have HE : ∀ w : World, (binOp .eql 80 (.map (some m)) (.map none)).run Try.prog w = .ok (.bool false) w := fun w => by kernel_rfl
  clear h h1 h2 hw hn hB ht
  go_enter Try.func9, Try.ntmps9
  go_wp2_with fail
  refine wp_region_held_drew (S := fun w' => w'.cell? ⟨b, 0, none⟩ = some (.int .i64 now) ∧ w'.cell? ⟨b, 1, none⟩ = some (.map (some m))) (by kernel_rfl) (⟨c0, c1⟩) (fun hHeld => ?_)
  refine wpAnyH_take (i := 0) (oi := ⟨some 15, .move (.tmp 0), _, _, _, none⟩) (v := ?_) rfl (by kernel_rfl) (by kernel_rfl) (by kernel_rfl) (fun _ _ _ h => h) (Or.inl ⟨by rfl, ?_⟩) (by assumption) ?_
  rotate_left
  · intro w hSw
    try dsimp only at hSw
    go_simp
    try with_reducible rfl
  try simp only [Act.put, List.setIfInBounds_toArray, List.set_cons_zero, List.set_cons_succ]
  refine wpAnyH_take (i := 1) (oi := ⟨some 16, .nilCheck (.tmp 15), _, _, _, none⟩) (v := ?_) rfl (by kernel_rfl) (by kernel_rfl) (by kernel_rfl) (fun _ _ _ h => h) (Or.inl ⟨by rfl, ?_⟩) (by assumption) ?_
  rotate_left
  · intro w hSw
    try dsimp only at hSw
    go_simp
    try with_reducible rfl
  try simp only [Act.put, List.setIfInBounds_toArray, List.set_cons_zero, List.set_cons_succ]
  refine wpAnyH_take (i := 2) (oi := ⟨some 17, .fieldAddr 82 (.tmp 16) 1, _, _, _, none⟩) (v := ?_) rfl (by kernel_rfl) (by kernel_rfl) (by kernel_rfl) (fun _ _ _ h => h) (Or.inl ⟨by rfl, ?_⟩) (by assumption) ?_
  rotate_left
  · intro w hSw
    try dsimp only at hSw
    go_simp
    try with_reducible rfl
  try simp only [Act.put, List.setIfInBounds_toArray, List.set_cons_zero, List.set_cons_succ]
  refine wpAnyH_take (i := 3) (oi := ⟨some 18, .load 80 (.tmp 17), _, _, _, none⟩) (v := ?_) rfl (by kernel_rfl) (by kernel_rfl) (by kernel_rfl) (fun _ _ _ h => h) (Or.inl ⟨by rfl, ?_⟩) (by assumption) ?_
  rotate_left
  · intro w hSw
    try dsimp only at hSw
    go_simp
    try with_reducible rfl
  try simp only [Act.put, List.setIfInBounds_toArray, List.set_cons_zero, List.set_cons_succ]
  refine wpAnyH_take (i := 4) (oi := ⟨some 19, .move (.tmp 1), _, _, _, none⟩) (v := ?_) rfl (by kernel_rfl) (by kernel_rfl) (by kernel_rfl) (fun _ _ _ h => h) (Or.inl ⟨by rfl, ?_⟩) (by assumption) ?_
  rotate_left
  · intro w hSw
    try dsimp only at hSw
    go_simp
    try with_reducible rfl
  try simp only [Act.put, List.setIfInBounds_toArray, List.set_cons_zero, List.set_cons_succ]
  refine wpAnyH_take (i := 5) (oi := ⟨some 20, .move (.tmp 0), _, _, _, none⟩) (v := ?_) rfl (by kernel_rfl) (by kernel_rfl) (by kernel_rfl) (fun _ _ _ h => h) (Or.inl ⟨by rfl, ?_⟩) (by assumption) ?_
  rotate_left
  · intro w hSw
    try dsimp only at hSw
    go_simp
    try with_reducible rfl
  try simp only [Act.put, List.setIfInBounds_toArray, List.set_cons_zero, List.set_cons_succ]
  refine wpAnyH_take (i := 6) (oi := ⟨some 21, .nilCheck (.tmp 20), _, _, _, none⟩) (v := ?_) rfl (by kernel_rfl) (by kernel_rfl) (by kernel_rfl) (fun _ _ _ h => h) (Or.inl ⟨by rfl, ?_⟩) (by assumption) ?_
  rotate_left
  · intro w hSw
    try dsimp only at hSw
    go_simp
    try with_reducible rfl
  try simp only [Act.put, List.setIfInBounds_toArray, List.set_cons_zero, List.set_cons_succ]
  refine wpAnyH_take (i := 7) (oi := ⟨some 22, .fieldAddr 82 (.tmp 21) 0, _, _, _, none⟩) (v := ?_) rfl (by kernel_rfl) (by kernel_rfl) (by kernel_rfl) (fun _ _ _ h => h) (Or.inl ⟨by rfl, ?_⟩) (by assumption) ?_
  rotate_left
  · intro w hSw
    try dsimp only at hSw
    go_simp
    try with_reducible rfl
  try simp only [Act.put, List.setIfInBounds_toArray, List.set_cons_zero, List.set_cons_succ]
  refine wpAnyH_take (i := 8) (oi := ⟨some 23, .load 3 (.tmp 22), _, _, _, none⟩) (v := ?_) rfl (by kernel_rfl) (by kernel_rfl) (by kernel_rfl) (fun _ _ _ h => h) (Or.inl ⟨by rfl, ?_⟩) (by assumption) ?_
  rotate_left
  · intro w hSw
    try dsimp only at hSw
    go_simp
    try with_reducible rfl
  try simp only [Act.put, List.setIfInBounds_toArray, List.set_cons_zero, List.set_cons_succ]
  refine wpAnyH_take (i := 9) (oi := ⟨some 24, .move (.tmp 2), _, _, _, none⟩) (v := ?_) rfl (by kernel_rfl) (by kernel_rfl) (by kernel_rfl) (fun _ _ _ h => h) (Or.inl ⟨by rfl, ?_⟩) (by assumption) ?_
  rotate_left
  · intro w hSw
    try dsimp only at hSw
    go_simp
    try with_reducible rfl
  try simp only [Act.put, List.setIfInBounds_toArray, List.set_cons_zero, List.set_cons_succ]
  refine wpAnyH_ready (rs := [10]) (by kernel_rfl) (by simp) ?_
  refine AllReadyH.cons (o := ⟨some 25, _, _, _, _, none⟩) rfl (fun K hK => ?_) AllReadyH.nil
  go_simp
  (go_at_call 37; refine (HT.out _).mono ?_; rintro e wq ⟨rfl, rfl⟩)
  try go_wp2_with fail
  refine hK.out _ _ (⟨c0, c1⟩) (fun hHeld2 => ?_)
  clear hK K
  try simp only [Act.put, List.setIfInBounds_toArray, List.set_cons_zero, List.set_cons_succ]
  refine wpAnyH_take (i := 11) (oi := ⟨some 26, .binOp .add 3 (.tmp 23) (.tmp 25) 3, _, _, _, none⟩) (v := ?_) rfl (by kernel_rfl) (by kernel_rfl) (by kernel_rfl) (fun _ _ _ h => h) (Or.inl ⟨by rfl, ?_⟩) (by assumption) ?_
  rotate_left
  · intro w hSw
    try dsimp only at hSw
    go_simp
    try with_reducible rfl
  try simp only [Act.put, List.setIfInBounds_toArray, List.set_cons_zero, List.set_cons_succ]
  refine wpAnyH_ready (rs := [12]) (by kernel_rfl) (by simp) ?_
  refine AllReadyH.cons (o := ⟨none, _, _, _, _, none⟩) rfl (fun K hK => ?_) AllReadyH.nil
  apply op_setF (mo := .tmp 18) (x := .tmp 19) (v := .tmp 26) (m := m) (n := n) (D := D) (F := F) (id := id) (y := now + T) (hown := HO.out.drew) (hF := HF.out) (hn := HN.out) (hw := HW.out) (hy := HY.out)
  all_goals (try (first | rfl | decide))
  intro w1 D1 ho1 hf1 hg1
  have HO1 := Kp.mk ho1
  have HF1 := Kp.mk hf1
  have HG1 := Kp.mk (show w.grownBy w1 (some m) from ⟨hg1.os, hg1.tape, hg1.output, hg1.size, hg1.block⟩)
  have hb1 := (HG1.out.block b (blk_lt H.out.hb) (fun e => H.out.ne (by cases e; rfl))).trans H.out.hb
  have HC1 := Kp.mk (And.intro (blk_cell (i := 0) hb1 rfl) (blk_cell (i := 1) hb1 rfl))
  clear ho1 hf1 hg1 hb1
  refine hK.out _ _ (HC1.out) (fun hHeld2 => ?_)
  clear hK K
  try simp only [Act.put, List.setIfInBounds_toArray, List.set_cons_zero, List.set_cons_succ]
  refine wpAnyH_done (by kernel_rfl) ?_ _
  go_wp2_with fail
  first | go_end0 | refine bodyPost_ret (results_none rfl _ _ _) rfl ?_
  exact ⟨⟨_, rfl⟩, ⟨(HG1.out.block b (blk_lt H.out.hb) (fun e => H.out.ne (by cases e; rfl))).trans H.out.hb, ⟨_, HO1.out, HF1.out⟩, H.out.ne⟩, kpt_grown HG1.out⟩
end Go.Proofs.Ytpgnekejemockaa
