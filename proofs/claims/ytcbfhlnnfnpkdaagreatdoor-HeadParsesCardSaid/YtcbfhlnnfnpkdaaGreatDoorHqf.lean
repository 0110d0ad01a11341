/- Heads (layer 22): a reader of a head is fed (bin/mkhqf.py). -/
import Derived.Test.YtcbfhlnnfnpkdaaGreatDoorHqe
import Derived.Deep.RegionHeld3
namespace Go.Proofs.YtcbfhlnnfnpkdaaGreatDoor
open Go.RowKit
set_option linter.unusedVariables false
set_option linter.unusedSimpArgs false

theorem PTo.refl {A : Nat → Prop} {b bl most : Nat} {kind l0 l1 l2 l3 l4 : Int} {P : PSt} {w : World} (h : PR A b bl most kind l0 l1 l2 l3 l4 P w) : PTo A b bl most kind l0 l1 l2 l3 l4 P w w := ⟨A, h, fun k hk => .inl hk, KptH.refl _ _⟩
theorem PTo.trans {A : Nat → Prop} {b bl most : Nat} {kind l0 l1 l2 l3 l4 : Int} {P P2 : PSt} {w w1 w2 : World} (h : PTo A b bl most kind l0 l1 l2 l3 l4 P w w1) (h2 : ∀ A1, PR A1 b bl most kind l0 l1 l2 l3 l4 P w1 → PTo A1 b bl most kind l0 l1 l2 l3 l4 P2 w1 w2) : PTo A b bl most kind l0 l1 l2 l3 l4 P2 w w2 := by
  obtain ⟨A1, g1, g2, g3⟩ := h
  obtain ⟨A2, k1, k2, k3⟩ := h2 A1 g1
  refine ⟨A2, k1, fun k hk => ?_, ⟨k3.os.trans g3.os, k3.tape.trans g3.tape, k3.output.trans g3.output, Nat.le_trans g3.size k3.size, fun k hk hA => (k3.block k (Nat.lt_of_lt_of_le hk g3.size) (fun hA1 => (g2 k hA1).elim hA (fun h => by omega))).trans (g3.block k hk hA)⟩⟩
  rcases k2 k hk with h | h
  · exact g2 k h
  · exact .inr (Nat.le_trans g3.size h)
theorem stepC {A A1 A2 : Nat → Prop} {w w1 w2 : World} (h : (∀ k, A1 k → A k ∨ w.heap.size ≤ k) ∧ KptH (fun k => ¬ A k) w w1) (h2 : ∀ k, A2 k → A1 k ∨ w1.heap.size ≤ k) (k2 : KptH (fun k => ¬ A1 k) w1 w2) : (∀ k, A2 k → A k ∨ w.heap.size ≤ k) ∧ KptH (fun k => ¬ A k) w w2 := by
  refine ⟨fun k hk => ?_, ⟨k2.os.trans h.2.os, k2.tape.trans h.2.tape, k2.output.trans h.2.output, Nat.le_trans h.2.size k2.size, fun k hk hA => (k2.block k (Nat.lt_of_lt_of_le hk h.2.size) (fun hA1 => (h.1 k hA1).elim hA (fun h => by omega))).trans (h.2.block k hk hA)⟩⟩
  rcases h2 k hk with h3 | h3
  · exact h.1 k h3
  · exact .inr (Nat.le_trans h.2.size h3)
theorem PR.cell0 {A : Nat → Prop} {b bl most : Nat} {kind l0 l1 l2 l3 l4 : Int} {P : PSt} {w : World} (h : PR A b bl most kind l0 l1 l2 l3 l4 P w) : w.cell? ⟨b, 0, none⟩ = some (.pointer (some ⟨bl, 0, none⟩)) := by
  obtain ⟨tv, gv, fv, h1, -⟩ := h.ex
  exact blk_cell (i := 0) h1 rfl
theorem PR.cell8 {A : Nat → Prop} {b bl most : Nat} {kind l0 l1 l2 l3 l4 : Int} {P : PSt} {w : World} (h : PR A b bl most kind l0 l1 l2 l3 l4 P w) : w.cell? ⟨b, 8, none⟩ = some (.bool P.ended) := by
  obtain ⟨tv, gv, fv, h1, -⟩ := h.ex
  exact blk_cell (i := 8) h1 rfl
theorem PR.cell15 {A : Nat → Prop} {b bl most : Nat} {kind l0 l1 l2 l3 l4 : Int} {P : PSt} {w : World} (h : PR A b bl most kind l0 l1 l2 l3 l4 P w) : w.cell? ⟨b, 15, none⟩ = some (.int .i64 P.err) := by
  obtain ⟨tv, gv, fv, h1, -⟩ := h.ex
  exact blk_cell (i := 15) h1 rfl
/-- What its lines leave of the reader. -/
theorem PR.lin {A : Nat → Prop} {b bl most : Nat} {kind l0 l1 l2 l3 l4 : Int} {P : PSt} {w w' : World} {st : LS} (h : PR A b bl most kind l0 l1 l2 l3 l4 P w) (ht : ∀ tv, LinAt bl most P.st tv w → LinTo bl most st tv w w') : PTo A b bl most kind l0 l1 l2 l3 l4 { P with st := st } w w' := by
  obtain ⟨⟨tv, gv, fv, h1, h2, h3, h4, h5, h6, h7⟩, ha, hl⟩ := h
  obtain ⟨tv', k1, k2, k3⟩ := ht tv h2
  have nb : bl ≠ b := fun e => by
    have h8 := h2.blk
    rw [e, h1] at h8
    revert h8
    simp
  have K : ∀ k, k < w.heap.size → k ≠ bl → tv.ownBlock ≠ some k → w'.heap[k]? = w.heap[k]? := fun k hk e1 e2 => k2.block k hk e1 e2
  refine ⟨fun k => A k ∨ w.heap.size ≤ k, ⟨⟨tv', gv, fv, (K b (blk_lt h1) nb.symm (own_blk_ne h2.own h1 (by decide))).trans h1, k1, own_kptH h3 fun k hk e => K k hk (fun e2 => own_blk_ne h3 h2.blk (by decide) (e2 ▸ e)) (fun e2 => own_own_ne h3 h2.own (by decide) k e e2),
    own_kptH h4 fun k hk e => K k hk (fun e2 => own_blk_ne h4 h2.blk (by decide) (e2 ▸ e)) (fun e2 => own_own_ne h4 h2.own (by decide) k e e2), fun k hk => ?_, fun k hk => .inl (h6 k hk), fun k hk => .inl (h7 k hk)⟩, .inl ha, .inl hl⟩, fun k hk => hk,
    ⟨k2.os, k2.tape, k2.output, k2.size, fun k hk hA => K k hk (fun e => hA (e ▸ hl)) (fun e => hA (h5 k e))⟩⟩
  rcases k3 with h | ⟨j, h, hj⟩
  · exact .inl (h5 k (by rw [← h]; exact hk))
  · rw [h] at hk
    cases hk
    exact .inr hj
theorem plfeed_any (A : Nat → Prop) (b bl most : Nat) (kind l0 l1 l2 l3 l4 : Int) (P : PSt) (x : ByteArray) (w : World) (h : PR A b bl most kind l0 l1 l2 l3 l4 P w) (hx : x.size ≤ 1000000) :
    Calls Tryz.prog 57 #[.pointer (some ⟨bl, 0, none⟩), .string x] w fun e w' => e = .returned (.tuple #[.int .i64 (runS most P.st x.data.toList).1, .int .i64 (runS most P.st x.data.toList).2.err]) ∧ PTo A b bl most kind l0 l1 l2 l3 l4 { P with st := (runS most P.st x.data.toList).2 } w w' := by
  obtain ⟨tv, gv, fv, h1, h2, h3⟩ := h.ex
  refine (feed_any x bl most P.st tv w hx h2).mono fun e w' hh => ⟨hh.1, ?_⟩
  obtain ⟨tv', k1, k2, k3⟩ := hh.2
  exact h.lin fun tv2 h2' => by
    have e : tv2 = tv := by
      have a1 := blk_cell (i := 2) h2'.blk rfl
      have a2 := blk_cell (i := 2) h2.blk rfl
      rw [a1] at a2
      exact Option.some.inj a2
    rw [e]
    exact hh.2
theorem plline_any (A : Nat → Prop) (b bl most : Nat) (kind l0 l1 l2 l3 l4 : Int) (P : PSt) (w : World) (h : PR A b bl most kind l0 l1 l2 l3 l4 P w) (hw : P.st.whole = true) :
    Calls Tryz.prog 60 #[.pointer (some ⟨bl, 0, none⟩)] w fun e w' => e = .returned (.string (baL P.st.text)) ∧ PTo A b bl most kind l0 l1 l2 l3 l4 { P with st := lsCut P.st } w w' := by
  obtain ⟨tv, gv, fv, h1, h2, h3⟩ := h.ex
  refine (line_yes bl most P.st tv w h2 hw).mono fun e w' hh => ⟨hh.1, ?_⟩
  exact h.lin fun tv2 h2' => by
    have e : tv2 = tv := by
      have a1 := blk_cell (i := 2) h2'.blk rfl
      have a2 := blk_cell (i := 2) h2.blk rfl
      rw [a1] at a2
      exact Option.some.inj a2
    rw [e]
    exact hh.2
theorem plwhole_any (A : Nat → Prop) (b bl most : Nat) (kind l0 l1 l2 l3 l4 : Int) (P : PSt) (w : World) (h : PR A b bl most kind l0 l1 l2 l3 l4 P w) :
    Calls Tryz.prog 58 #[.pointer (some ⟨bl, 0, none⟩)] w fun e w' => e = .returned (.bool P.st.whole) ∧ w = w' := by
  obtain ⟨tv, gv, fv, h1, h2, h3⟩ := h.ex
  exact whole_any bl most P.st tv w h2
/-! ### take, whatever the line -/
set_option maxRecDepth 100000 in
set_option maxHeartbeats 1000000 in
theorem ptake_skip (A : Nat → Prop) (b bl most : Nat) (kind l0 l1 l2 l3 l4 : Int) (P : PSt) (w : World) (h : PR A b bl most kind l0 l1 l2 l3 l4 P w) (hg : P.got = []) (hk : kind ≠ 2) :
    Calls Tryz.prog 59 #[.pointer (some ⟨b, 0, none⟩), .string ⟨#[]⟩] w fun e w' => e = .returned (.tuple #[]) ∧ PTo A b bl most kind l0 l1 l2 l3 l4 P w w' := by
  have H := Kp.mk (PTo.refl h)
  obtain ⟨tv, gv, fv, h1, h2, h3, h4⟩ := h.ex
  rw [hg] at h3
  obtain ⟨ga, gc, rfl⟩ := own_lenH h3
  have c1 := blk_cell (i := 1) h1 rfl
  have c7 : w.cell? ⟨b, 7, none⟩ = some (.slice ga 0 gc) := blk_cell (i := 7) h1 rfl
  have t1 : (kind == 2) = false := by rw [beq_eq_false_iff_ne]; exact hk
  clear h h1 h2 h3 h4 hk hg
  go_enter Tryz.func59, Tryz.ntmps59
  go_wp2_with fail
  go_end0
  exact ⟨rfl, H.out⟩
/-- A state that a head's lines may be read in. -/
structure Rdy (l1 : Int) (P : PSt) : Prop where
  n : P.got.length ≤ 1000
  z : ∀ s ∈ P.got, s.size ≤ 900
  l : -9223372036854775808 ≤ l1 ∧ l1 ≤ 9223372036854775807
theorem ptake_any (A : Nat → Prop) (b bl most : Nat) (kind l0 l1 l2 l3 l4 : Int) (P : PSt) (line : ByteArray) (w : World) (h : PR A b bl most kind l0 l1 l2 l3 l4 P w) (hr : Rdy l1 P) :
    Calls Tryz.prog 59 #[.pointer (some ⟨b, 0, none⟩), .string line] w fun e w' => e = .returned (.tuple #[]) ∧ PTo A b bl most kind l0 l1 l2 l3 l4 (takeP kind l1 l4 P line) w w' := by
  by_cases hl : line.size = 0
  · obtain rfl : line = ⟨#[]⟩ := emp_of hl
    by_cases hk : P.got ≠ [] ∨ kind = 2
    · have e : takeP kind l1 l4 P ⟨#[]⟩ = { P with ended := true, hd := (prH kind l1 l4 P.got).1, err := (prH kind l1 l4 P.got).2 } := by
        unfold takeP
        rw [if_neg (fun e => e hl), if_pos hk]
      rw [e]
      exact ptake_end A b bl most kind l0 l1 l2 l3 l4 P w h hk hr.n hr.z hr.l
    · have e : takeP kind l1 l4 P ⟨#[]⟩ = P := by
        unfold takeP
        rw [if_neg (fun e => e hl), if_neg hk]
      rw [e]
      exact ptake_skip A b bl most kind l0 l1 l2 l3 l4 P w h (Classical.byContradiction fun e => hk (.inl e)) (fun e => hk (.inr e))
  · have e : takeP kind l1 l4 P line = { P with got := P.got ++ [line] } := by
      unfold takeP
      rw [if_pos hl]
    rw [e]
    exact ptake_line A b bl most kind l0 l1 l2 l3 l4 P line w h hl (Nat.le_trans hr.n (by omega))
/-! ### Feed -/
theorem seeS_len (most : Nat) (st : LS) (c : UInt8) : (seeS most st c).1.text.length ≤ st.text.length + 1 ∧ ((seeS most st c).2 = false → (seeS most st c).1.text.length ≤ st.text.length) := by
  unfold seeS
  repeat' split
  all_goals (refine ⟨by simp, fun h => ?_⟩)
  all_goals first | (exact Nat.le_refl _) | (cases h)
theorem runS_len (most : Nat) : ∀ (l : List UInt8) (st : LS), (runS most st l).2.text.length ≤ st.text.length + (runS most st l).1
  | [], st => Nat.le_refl _
  | c :: l, st => by
    obtain ⟨h1, h2⟩ := seeS_len most st c
    rw [runS]
    split
    · have := runS_len most l (seeS most st c).1
      show (runS most (seeS most st c).1 l).2.text.length ≤ _ + ((runS most (seeS most st c).1 l).1 + 1)
      omega
    · rename_i h
      exact h2 (by simpa using h)
theorem runS_le (most : Nat) : ∀ (l : List UInt8) (st : LS), (runS most st l).1 ≤ l.length
  | [], st => Nat.le_refl _
  | c :: l, st => by
    rw [runS]
    split
    · have := runS_le most l (seeS most st c).1
      show (runS most (seeS most st c).1 l).1 + 1 ≤ l.length + 1
      omega
    · exact Nat.zero_le _
/-- What holds at each round's head. -/
structure FdI (kind l1 l4 : Int) (most : Nat) (P0 P : PSt) (s : ByteArray) (u : Nat) : Prop where
  uz : u ≤ s.size
  run : runP most kind l1 l4 P0 s.data.toList = (u + (runP most kind l1 l4 P (s.data.toList.drop u)).1, (runP most kind l1 l4 P (s.data.toList.drop u)).2)
  wf : P.ended = false → P.st.whole = false
  gl : P.got.length ≤ P0.got.length + u
  tl : P.st.text.length ≤ P0.st.text.length + u
  zl : ∀ x ∈ P.got, x.size ≤ 900
theorem baL_size (l : List UInt8) : (baL l).size = l.length := by simp [baL, ba_size']
theorem take_got (kind l1 l4 : Int) (P : PSt) (x : ByteArray) : (takeP kind l1 l4 P x).got.length ≤ P.got.length + 1 ∧ (takeP kind l1 l4 P x).st = P.st ∧ ∀ y ∈ (takeP kind l1 l4 P x).got, y ∈ P.got ∨ y = x := by
  unfold takeP
  split
  · refine ⟨by simp, rfl, fun y hy => ?_⟩
    rcases List.mem_append.1 hy with h | h
    · exact .inl h
    · exact .inr (by simpa using h)
  · split
    · exact ⟨Nat.le_succ _, rfl, fun y hy => .inl hy⟩
    · exact ⟨Nat.le_succ _, rfl, fun y hy => .inl hy⟩
set_option maxRecDepth 100000 in
set_option maxHeartbeats 4000000 in
theorem pfeed_any (A : Nat → Prop) (b bl most : Nat) (kind l0 l1 l2 l3 l4 : Int) (P0 : PSt) (s : ByteArray) (w : World) (h : PR A b bl most kind l0 l1 l2 l3 l4 P0 w) (hw : P0.ended = false → P0.st.whole = false) (hz : ∀ x ∈ P0.got, x.size ≤ 900) (hb : P0.got.length + P0.st.text.length + s.size ≤ 900) (hl1 : -9223372036854775808 ≤ l1 ∧ l1 ≤ 9223372036854775807) :
    Calls Tryz.prog 25 #[.pointer (some ⟨b, 0, none⟩), .string s] w fun e w' => e = .returned (.tuple #[.int .i64 (runP most kind l1 l4 P0 s.data.toList).1, .int .i64 (errP (runP most kind l1 l4 P0 s.data.toList).2)]) ∧ PTo A b bl most kind l0 l1 l2 l3 l4 (runP most kind l1 l4 P0 s.data.toList).2 w w' := by
  have HP0 := Kp.mk h
  have HI0 := Kp.mk (show FdI kind l1 l4 most P0 P0 s 0 from ⟨Nat.zero_le _, by simp, hw, Nat.le_refl _, Nat.le_refl _, hz⟩)
  have HW := Kp.mk (PTo.refl h)
  clear h hw hz
  go_enter Tryz.func25, Tryz.ntmps25
  go_wp2_with fail
  refine (pmade_any A b bl most kind l0 l1 l2 l3 l4 P0 _ HP0.out).mono ?_
  rintro e w1 ⟨rfl, rfl⟩
  go_wp2_with fail
  go_loopw [4] (fun uv wr => ∃ (u : Nat) (P : PSt), uv = .int .i64 u ∧ FdI kind l1 l4 most P0 P s u ∧ PTo A b bl most kind l0 l1 l2 l3 l4 P w wr) (fun uv _ => s.size - (intOf uv).toNat)
  case atStart => exact ⟨0, P0, rfl, HI0.out, HW.out⟩
  case round =>
    obtain ⟨u, P, rfl, hi, A1, hp, ha, hk⟩ := hrel
    have HI := Kp.mk hi
    have HP := Kp.mk hp
    have HT := Kp.mk (show PTo A b bl most kind l0 l1 l2 l3 l4 P w wr from ⟨A1, hp, ha, hk⟩)
    have HC1 := Kp.mk (And.intro ha hk)
    have c8 := hp.cell8
    have c15 := hp.cell15
    have huz := hi.uz
    clear hi hp ha hk HW HI0 HP0
    cases hen : P.ended
    · rw [hen] at c8
      have HD := Kp.mk (HP.out.below (Below.refl _ wr).drew)
      have q0 : (0 : Int) ≤ (u : Int) := by omega
      have q1 : (u : Int) ≤ (s.size : Int) := by omega
      have HX : (s.extract u s.size).data.toList = s.data.toList.drop u := by rw [Lib.extract_data, List.take_of_length_le (by rw [List.length_drop, ← ba_size']; omega)]
      have HLF := Kp.mk (fun W (h : PR A1 b bl most kind l0 l1 l2 l3 l4 P W) => plfeed_any A1 b bl most kind l0 l1 l2 l3 l4 P (s.extract u s.size) W h (by simp; omega))
      have HRL := Kp.mk (run_line most kind l1 l4 (s.data.toList.drop u) P hen (HI.out.wf hen))
      have HLN := Kp.mk (runS_len most (s.data.toList.drop u) P.st)
      have HLE := Kp.mk (runS_le most (s.data.toList.drop u) P.st)
      rw [HX] at HLF
      generalize runS most P.st (s.data.toList.drop u) = R at HLF HRL HLN HLE
      obtain ⟨nn, st3⟩ := R
      dsimp only at HLF HRL HLN HLE
      clear HX
      go_upto_region 4 with fail
      clear c8 c15
      refine wp_region_held_drew (S := fun w' => w'.cell? ⟨b, 0, none⟩ = some (.pointer (some ⟨bl, 0, none⟩))) (by kernel_rfl) (HD.out.cell0) (fun hHeld => ?_)
      refine wpAnyH_take (i := 0) (oi := ⟨some 17, .move (.tmp 0), _, _, _, none⟩) (v := ?_) rfl (by kernel_rfl) (by kernel_rfl) (by kernel_rfl) (fun _ _ _ h => h) (Or.inl ⟨by rfl, ?_⟩) (by assumption) ?_
      rotate_left
      · intro w hSw
        try dsimp only at hSw
        go_simp
        try with_reducible rfl
      try simp only [Act.put, List.setIfInBounds_toArray, List.set_cons_zero, List.set_cons_succ]
      refine wpAnyH_take (i := 1) (oi := ⟨some 18, .nilCheck (.tmp 17), _, _, _, none⟩) (v := ?_) rfl (by kernel_rfl) (by kernel_rfl) (by kernel_rfl) (fun _ _ _ h => h) (Or.inl ⟨by rfl, ?_⟩) (by assumption) ?_
      rotate_left
      · intro w hSw
        try dsimp only at hSw
        go_simp
        try with_reducible rfl
      try simp only [Act.put, List.setIfInBounds_toArray, List.set_cons_zero, List.set_cons_succ]
      refine wpAnyH_take (i := 2) (oi := ⟨some 19, .fieldAddr 76 (.tmp 18) 0, _, _, _, none⟩) (v := ?_) rfl (by kernel_rfl) (by kernel_rfl) (by kernel_rfl) (fun _ _ _ h => h) (Or.inl ⟨by rfl, ?_⟩) (by assumption) ?_
      rotate_left
      · intro w hSw
        try dsimp only at hSw
        go_simp
        try with_reducible rfl
      try simp only [Act.put, List.setIfInBounds_toArray, List.set_cons_zero, List.set_cons_succ]
      refine wpAnyH_take (i := 3) (oi := ⟨some 20, .load 73 (.tmp 19), _, _, _, none⟩) (v := ?_) rfl (by kernel_rfl) (by kernel_rfl) (by kernel_rfl) (fun _ _ _ h => h) (Or.inl ⟨by rfl, ?_⟩) (by assumption) ?_
      rotate_left
      · intro w hSw
        try dsimp only at hSw
        go_simp
        try with_reducible rfl
      try simp only [Act.put, List.setIfInBounds_toArray, List.set_cons_zero, List.set_cons_succ]
      refine wpAnyH_take (i := 4) (oi := ⟨some 21, .move (.tmp 1), _, _, _, none⟩) (v := ?_) rfl (by kernel_rfl) (by kernel_rfl) (by kernel_rfl) (fun _ _ _ h => h) (Or.inl ⟨by rfl, ?_⟩) (by assumption) ?_
      rotate_left
      · intro w hSw
        try dsimp only at hSw
        go_simp
        try with_reducible rfl
      try simp only [Act.put, List.setIfInBounds_toArray, List.set_cons_zero, List.set_cons_succ]
      refine wpAnyH_take (i := 5) (oi := ⟨some 22, .move (.tmp 4), _, _, _, none⟩) (v := ?_) rfl (by kernel_rfl) (by kernel_rfl) (by kernel_rfl) (fun _ _ _ h => h) (Or.inl ⟨by rfl, ?_⟩) (by assumption) ?_
      rotate_left
      · intro w hSw
        try dsimp only at hSw
        go_simp
        try with_reducible rfl
      try simp only [Act.put, List.setIfInBounds_toArray, List.set_cons_zero, List.set_cons_succ]
      refine wpAnyH_take (i := 6) (oi := ⟨some 23, .slice 9 (.tmp 21) (some (.tmp 22)) none none, _, _, _, none⟩) (v := ?_) rfl (by kernel_rfl) (by kernel_rfl) (by kernel_rfl) (fun _ _ _ h => h) (Or.inl ⟨by rfl, ?_⟩) (by assumption) ?_
      rotate_left
      · intro w hSw
        try dsimp only at hSw
        go_simp
        try with_reducible rfl
      try simp only [Act.put, List.setIfInBounds_toArray, List.set_cons_zero, List.set_cons_succ]
      refine wpAnyH_ready (rs := [7]) (by kernel_rfl) (by simp) ?_
      refine AllReadyH.cons (o := ⟨some 24, _, _, _, _, none⟩) rfl (fun K hK => ?_) AllReadyH.nil
      go_simp
      (go_at_call 57; refine (HLF.out _ HD.out).mono ?_; rintro e w3 ⟨rfl, ⟨A3, hp3, ha3, hk3⟩⟩)
      have HP3 := Kp.mk hp3
      have HA3 := Kp.mk ha3
      have HK3 := Kp.mk hk3
      have d0 := hp3.cell0
      clear hp3 ha3 hk3
      try go_wp2_with fail
      refine hK.out _ _ (d0) (fun hHeld2 => ?_)
      clear hK K
      try simp only [Act.put, List.setIfInBounds_toArray, List.set_cons_zero, List.set_cons_succ]
      refine wpAnyH_take (i := 8) (oi := ⟨some 16, .move (.tmp 24), _, _, _, none⟩) (v := ?_) rfl (by kernel_rfl) (by kernel_rfl) (by kernel_rfl) (fun _ _ _ h => h) (Or.inl ⟨by rfl, ?_⟩) (by assumption) ?_
      rotate_left
      · intro w hSw
        try dsimp only at hSw
        go_simp
        try with_reducible rfl
      try simp only [Act.put, List.setIfInBounds_toArray, List.set_cons_zero, List.set_cons_succ]
      refine wpAnyH_take (i := 9) (oi := ⟨some 25, .extract (.tmp 16) 0, _, _, _, none⟩) (v := ?_) rfl (by kernel_rfl) (by kernel_rfl) (by kernel_rfl) (fun _ _ _ h => h) (Or.inl ⟨by rfl, ?_⟩) (by assumption) ?_
      rotate_left
      · intro w hSw
        try dsimp only at hSw
        go_simp
        try with_reducible rfl
      try simp only [Act.put, List.setIfInBounds_toArray, List.set_cons_zero, List.set_cons_succ]
      refine wpAnyH_take (i := 10) (oi := ⟨some 26, .extract (.tmp 16) 1, _, _, _, none⟩) (v := ?_) rfl (by kernel_rfl) (by kernel_rfl) (by kernel_rfl) (fun _ _ _ h => h) (Or.inl ⟨by rfl, ?_⟩) (by assumption) ?_
      rotate_left
      · intro w hSw
        try dsimp only at hSw
        go_simp
        try with_reducible rfl
      try simp only [Act.put, List.setIfInBounds_toArray, List.set_cons_zero, List.set_cons_succ]
      refine wpAnyH_take (i := 11) (oi := ⟨some 6, .assign (.tmp 25), _, _, _, none⟩) (v := ?_) rfl (by kernel_rfl) (by kernel_rfl) (by kernel_rfl) (fun _ _ _ h => h) (Or.inl ⟨by rfl, ?_⟩) (by assumption) ?_
      rotate_left
      · intro w hSw
        try dsimp only at hSw
        go_simp
        try with_reducible rfl
      try simp only [Act.put, List.setIfInBounds_toArray, List.set_cons_zero, List.set_cons_succ]
      refine wpAnyH_take (i := 12) (oi := ⟨some 7, .assign (.tmp 26), _, _, _, none⟩) (v := ?_) rfl (by kernel_rfl) (by kernel_rfl) (by kernel_rfl) (fun _ _ _ h => h) (Or.inl ⟨by rfl, ?_⟩) (by assumption) ?_
      rotate_left
      · intro w hSw
        try dsimp only at hSw
        go_simp
        try with_reducible rfl
      try simp only [Act.put, List.setIfInBounds_toArray, List.set_cons_zero, List.set_cons_succ]
      refine wpAnyH_done (by kernel_rfl) ?_ _
      have hle : u + nn ≤ s.size := by
        have := HLE.out
        rw [List.length_drop, ← ba_size'] at this
        omega
      have hwr : IntKind.i64.wrap ((u : Int) + (nn : Int)) = ((u + nn : Nat) : Int) := by
        simp [IntKind.wrap, IntKind.signed, IntKind.bits, wrap64]; omega
      have HC3 := Kp.mk (stepC HC1.out (w1 := wr) (w2 := w3) HA3.out ((KptH.of (Below.refl _ wr).drew).trans HK3.out))
      have HT3 := Kp.mk (show PTo A b bl most kind l0 l1 l2 l3 l4 { P with st := st3 } w w3 from ⟨A3, HP3.out, HC3.out.1, HC3.out.2⟩)
      rcases HRL.out with ⟨hwf, hrun⟩ | ⟨hwh, her, hn1, hn2, hrun⟩
      · have HQ := Kp.mk (show runP most kind l1 l4 P0 s.data.toList = (u + nn, { P with st := st3 }) by rw [HI.out.run, hrun])
        have HE := Kp.mk (show errP { P with st := st3 } = st3.err by unfold errP; rw [if_neg (by rw [hen]; decide)])
        have HWH := Kp.mk (plwhole_any _ b bl most kind l0 l1 l2 l3 l4 _ _ HP3.out)
        dsimp only at HWH
        rw [hwf] at HWH
        clear hrun hwf HRL
        generalize st3.err = er at *
        by_cases h0 : er = 0
        · subst h0
          go_wp2_with fail
          refine HWH.out.mono ?_
          rintro e w4 ⟨rfl, rfl⟩
          go_wp2_with fail
          go_ret2
          refine ⟨by rw [HQ.out, HE.out]; rfl, ?_⟩
          rw [HQ.out]
          exact HT3.out
        · have t1 : (er != 0) = true := by rw [bne_iff_ne]; exact h0
          go_wp2_with fail
          go_ret2
          refine ⟨by rw [HQ.out, HE.out]; rfl, ?_⟩
          rw [HQ.out]
          exact HT3.out
      · have HWH := Kp.mk (plwhole_any _ b bl most kind l0 l1 l2 l3 l4 _ _ HP3.out)
        have HLI := Kp.mk (plline_any _ b bl most kind l0 l1 l2 l3 l4 _ _ HP3.out hwh)
        dsimp only at HWH HLI
        rw [hwh] at HWH
        rw [her]
        have HRUN := Kp.mk hrun
        have hg := HI.out.gl
        have ht := HI.out.tl
        have HSZ := Kp.mk (show ({ P with st := lsCut st3 } : PSt).got.length ≤ 1000 from by show P.got.length ≤ 1000; omega)
        have HRD := Kp.mk (show Rdy l1 { P with st := lsCut st3 } from ⟨HSZ.out, HI.out.zl, hl1⟩)
        clear hrun her hwh HRL
        go_wp2_with fail
        refine HWH.out.mono ?_
        rintro e w4 ⟨rfl, rfl⟩
        go_wp2_with fail
        refine HLI.out.mono ?_
        rintro e w5 ⟨rfl, A5, hp5, ha5, hk5⟩
        have HP5 := Kp.mk hp5
        have HC5 := Kp.mk (stepC HC3.out ha5 hk5)
        clear hp5 ha5 hk5
        go_wp2_with fail
        refine (ptake_any A5 b bl most kind l0 l1 l2 l3 l4 _ (baL st3.text) _ HP5.out HRD.out).mono ?_
        rintro e w6 ⟨rfl, A6, hp6, ha6, hk6⟩
        have HC6 := stepC HC5.out ha6 hk6
        have HT6 := Kp.mk (show PTo A b bl most kind l0 l1 l2 l3 l4 (takeP kind l1 l4 { P with st := lsCut st3 } (baL st3.text)) w w6 from ⟨A6, hp6, HC6.1, HC6.2⟩)
        obtain ⟨tg1, tg2, tg3⟩ := take_got kind l1 l4 { P with st := lsCut st3 } (baL st3.text)
        have HFI := Kp.mk (show FdI kind l1 l4 most P0 (takeP kind l1 l4 { P with st := lsCut st3 } (baL st3.text)) s (u + nn) from
          ⟨hle, by rw [HI.out.run, HRUN.out, List.drop_drop]; simp [Nat.add_assoc], fun _ => by rw [tg2]; rfl, Nat.le_trans tg1 (by show P.got.length + 1 ≤ _; omega), by rw [tg2]; exact Nat.zero_le _, fun y hy => by
            rcases tg3 y hy with h | h
            · exact HI.out.zl y h
            · rw [h, baL_size]
              have := HLN.out
              omega⟩)
        clear hp6 ha6 hk6 HC6 tg1 tg2 tg3
        go_wp2_with fail
        go_roundw
        case rel => exact ⟨u + nn, _, rfl, HFI.out, HT6.out⟩
        case measure => simp [intOf]; omega
    · rw [hen] at c8
      have HQ := Kp.mk (show runP most kind l1 l4 P0 s.data.toList = (u, P) by rw [HI.out.run, runP_ended hen]; rfl)
      have HE := Kp.mk (show errP P = P.err by unfold errP; rw [if_pos hen])
      go_wp2_with fail
      go_quiet (fail)
      go_wp2_with fail
      go_ret2
      refine ⟨by rw [HQ.out, HE.out]; rfl, ?_⟩
      rw [HQ.out]
      exact HT.out.trans fun A2 h2 => ⟨A2, h2.below (gdrewN _ _), fun k hk => .inl hk, KptH.of (gdrewN _ _)⟩
end Go.Proofs.YtcbfhlnnfnpkdaaGreatDoor
