/- Heads (layer 22): a reader of a head in memory (bin/mkhqe.py). -/
import Derived.Test.YtcbfhlnnfnpkdaaGreatDoorHqa
import Derived.Test.YtcbfhlnnfnpkdaaGreatDoorLnd
import Derived.Deep.MidRow
import Derived.Deep.DeepCutAuto
namespace Go.Proofs.YtcbfhlnnfnpkdaaGreatDoor
open Go.RowKit
set_option linter.unusedVariables false
set_option linter.unusedSimpArgs false

/-- Blocks of F are kept. -/
structure KptH (F : Nat → Prop) (w w' : World) : Prop where
  os : w'.os = w.os
  tape : w'.tape = w.tape
  output : w'.output = w.output
  size : w.heap.size ≤ w'.heap.size
  block : ∀ k, k < w.heap.size → F k → w'.heap[k]? = w.heap[k]?
theorem KptH.refl (F : Nat → Prop) (w : World) : KptH F w w := ⟨rfl, rfl, rfl, Nat.le_refl _, fun _ _ _ => rfl⟩
theorem KptH.trans {F : Nat → Prop} {u v w : World} (h : KptH F u v) (k : KptH F v w) : KptH F u w :=
  ⟨k.os.trans h.os, k.tape.trans h.tape, k.output.trans h.output, Nat.le_trans h.size k.size, fun i hi hf => (k.block i (Nat.lt_of_lt_of_le hi h.size) hf).trans (h.block i hi hf)⟩
theorem KptH.mono {F G : Nat → Prop} {u v : World} (h : KptH F u v) (hg : ∀ k, k < u.heap.size → G k → F k) : KptH G u v := ⟨h.os, h.tape, h.output, h.size, fun k hk hf => h.block k hk (hg k hk hf)⟩
theorem KptH.of {F : Nat → Prop} {w w' : World} (h : Below w.heap.size w w') : KptH F w w' := ⟨h.os, h.tape, h.output, h.size, fun k hk _ => h.block k hk⟩
theorem KptH.below {F : Nat → Prop} {B : Nat} {w w' : World} (h : KptH F w w') (hB : B ≤ w.heap.size) (hF : ∀ k, k < B → F k) : Below B w w' := ⟨h.os, h.tape, h.output, h.size, fun k hk => h.block k (Nat.lt_of_lt_of_le hk hB) (hF k hk)⟩
theorem KptH.setCell {F : Nat → Prop} {u w : World} {b : Nat} (h : KptH F u w) (o : Nat) (v : Value) (hb : ¬ F b) : KptH F u (w.setCell ⟨b, o, none⟩ v) :=
  ⟨h.os, h.tape, h.output, by simp [World.setCell]; exact h.size, fun k hk hf => (Below.heap_setCell _ _ _ _ (show k ≠ b from fun e => hb (e ▸ hf))).trans (h.block k hk hf)⟩
theorem KptH.onl {F : Nat → Prop} {u w w' : World} {b : Nat} {g : Option Nat} (h : KptH F u w) (ho : Onl b g w w') (hb : ¬ F b) (hg : ∀ k, g = some k → ¬ F k) : KptH F u w' :=
  ⟨ho.os.trans h.os, ho.tape.trans h.tape, ho.output.trans h.output, Nat.le_trans h.size ho.size, fun k hk hf => (ho.block k (Nat.lt_of_lt_of_le hk h.size) (fun e => hb (e ▸ hf)) (fun e => hg k e hf)).trans (h.block k hk hf)⟩
/-- The reader lies in block b, its lines in bl; its blocks are in A. -/
structure PR (A : Nat → Prop) (b bl most : Nat) (kind l0 l1 l2 l3 l4 : Int) (P : PSt) (w : World) : Prop where
  ex : ∃ tv gv fv : Value, w.heap[b]? = some (.cells #[.pointer (some ⟨bl, 0, none⟩), .int .i64 kind, .int .i64 l0, .int .i64 l1, .int .i64 l2, .int .i64 l3, .int .i64 l4, gv, .bool P.ended, .string P.hd.m, .string P.hd.t, .int .i64 P.hd.mi, .int .i64 P.hd.st, .string P.hd.r, fv, .int .i64 P.err] 76 (0, 0)) ∧ LinAt bl most P.st tv w ∧ w.ownsRow 0 9 1 gv P.got.length (svH P.got) ∧ w.ownsRow 0 67 2 fv P.hd.f.length (fvH P.hd.f) ∧
    (∀ k, tv.ownBlock = some k → A k) ∧ (∀ k, gv.ownBlock = some k → A k) ∧ (∀ k, fv.ownBlock = some k → A k)
  ab : A b
  al : A bl
theorem own_kptH {w w' : World} {B : Nat} {e : TypeId} {sz n : Nat} {v : Value} {xs : List Value} (h : w.ownsRow B e sz v n xs) (hk : ∀ k, k < w.heap.size → v.ownBlock = some k → w'.heap[k]? = w.heap[k]?) : w'.ownsRow B e sz v n xs := by
  refine ⟨h.1, ?_⟩
  rcases h.2 with h2 | ⟨g, cap, cur, rfl, h3, hg, rest⟩
  · exact .inl h2
  · exact .inr ⟨g, cap, cur, rfl, h3, (hk g (blk_lt hg) rfl).trans hg, rest⟩
theorem own_blk_ne {w : World} {B : Nat} {e t : TypeId} {sz n k : Nat} {v : Value} {xs : List Value} {c : Array Value} (h : w.ownsRow B e sz v n xs) (hk : w.heap[k]? = some (.cells c t (0, 0))) (ht : t ≠ e) : v.ownBlock ≠ some k := by
  rcases h.2 with ⟨h1, _⟩ | ⟨g, cap, cur, rfl, h3, hg, rest⟩
  · rw [h1]; simp [Value.ownBlock]
  · intro e1
    simp [Value.ownBlock] at e1
    subst e1
    rw [hk] at hg
    cases hg
    exact ht rfl
theorem own_own_ne {w : World} {B B' sz sz' n n' : Nat} {e e' : TypeId} {v v' : Value} {xs xs' : List Value} (h : w.ownsRow B e sz v n xs) (h' : w.ownsRow B' e' sz' v' n' xs') (hne : e ≠ e') : ∀ g, v.ownBlock = some g → v'.ownBlock ≠ some g := by
  intro g hg hg'
  rcases h.2 with ⟨h1, _⟩ | ⟨g1, cap, cur, h1, _, h3, _⟩
  · subst h1; cases hg
  · subst h1
    cases hg
    exact own_blk_ne h' h3 hne hg'
theorem setCells_kept (b : Nat) : ∀ (L : List Value) (o : Nat) (w : World), (w.setCells b o L).os = w.os ∧ (w.setCells b o L).tape = w.tape ∧ (w.setCells b o L).output = w.output ∧ (w.setCells b o L).heap.size = w.heap.size ∧ ∀ k, k ≠ b → (w.setCells b o L).heap[k]? = w.heap[k]?
  | [], o, w => ⟨rfl, rfl, rfl, rfl, fun _ _ => rfl⟩
  | v :: L, o, w => by
    obtain ⟨h1, h2, h3, h4, h5⟩ := setCells_kept b L (o + 1) (w.setCell ⟨b, o, none⟩ v)
    rw [World.setCells]
    exact ⟨h1, h2, h3, by rw [h4]; simp [World.setCell], fun k hk => (h5 k hk).trans (Below.heap_setCell _ _ _ _ hk)⟩
theorem PR.kept {A : Nat → Prop} {b bl most : Nat} {kind l0 l1 l2 l3 l4 : Int} {P : PSt} {w w' : World} (h : PR A b bl most kind l0 l1 l2 l3 l4 P w) (hk : ∀ k, k < w.heap.size → A k → w'.heap[k]? = w.heap[k]?) : PR A b bl most kind l0 l1 l2 l3 l4 P w' := by
  obtain ⟨⟨tv, gv, fv, h1, h2, h3, h4, h5, h6, h7⟩, ha, hl⟩ := h
  exact ⟨⟨tv, gv, fv, (hk b (blk_lt h1) ha).trans h1, h2.kept fun k hks hkk => hk k hks (hkk.elim (fun e => e ▸ hl) (h5 k)), own_kptH h3 fun k hks e => hk k hks (h6 k e), own_kptH h4 fun k hks e => hk k hks (h7 k e), h5, h6, h7⟩, ha, hl⟩
theorem PR.below {A : Nat → Prop} {b bl most : Nat} {kind l0 l1 l2 l3 l4 : Int} {P : PSt} {w w' : World} (h : PR A b bl most kind l0 l1 l2 l3 l4 P w) (hb : Below w.heap.size w w') : PR A b bl most kind l0 l1 l2 l3 l4 P w' := h.kept fun k hk _ => hb.block k hk
/-- What an act leaves. -/
def PTo (A : Nat → Prop) (b bl most : Nat) (kind l0 l1 l2 l3 l4 : Int) (P : PSt) (w w' : World) : Prop :=
  ∃ A' : Nat → Prop, PR A' b bl most kind l0 l1 l2 l3 l4 P w' ∧ (∀ k, A' k → A k ∨ w.heap.size ≤ k) ∧ KptH (fun k => ¬ A k) w w'
set_option maxHeartbeats 1000000 in
theorem pmade_any (A : Nat → Prop) (b bl most : Nat) (kind l0 l1 l2 l3 l4 : Int) (P : PSt) (w : World) (h : PR A b bl most kind l0 l1 l2 l3 l4 P w) :
    Calls Tryz.prog 54 #[.pointer (some ⟨b, 0, none⟩)] w fun e w' => e = .returned (.bool true) ∧ w = w' := by
  obtain ⟨tv, gv, fv, h1, -⟩ := h.ex
  have c0 := blk_cell (i := 0) h1 rfl
  clear h h1
  go_enter Tryz.func54, Tryz.ntmps54
  go_wp2_with fail
  go_ret
  exact ⟨rfl, rfl⟩
set_option maxHeartbeats 1000000 in
theorem pdone_any (A : Nat → Prop) (b bl most : Nat) (kind l0 l1 l2 l3 l4 : Int) (P : PSt) (w : World) (h : PR A b bl most kind l0 l1 l2 l3 l4 P w) :
    Calls Tryz.prog 21 #[.pointer (some ⟨b, 0, none⟩)] w fun e w' => e = .returned (.bool (P.ended && decide (P.err = 0))) ∧ w = w' := by
  have H := Kp.mk h
  obtain ⟨tv, gv, fv, h1, -⟩ := h.ex
  have c8 := blk_cell (i := 8) h1 rfl
  have c15 := blk_cell (i := 15) h1 rfl
  clear h h1
  go_enter Tryz.func21, Tryz.ntmps21
  go_wp2_with fail
  refine (pmade_any A b bl most kind l0 l1 l2 l3 l4 P _ H.out).mono ?_
  rintro e w1 ⟨rfl, rfl⟩
  clear H
  obtain ⟨st, got, en, hd, er⟩ := P
  dsimp only at c8 c15 ⊢
  cases en
  · go_wp2_with fail
    go_ret
    exact ⟨rfl, rfl⟩
  · by_cases he : er = 0
    · subst he
      go_wp2_with fail
      go_ret
      exact ⟨rfl, rfl⟩
    · have t1 : (er == 0) = false := by rw [beq_eq_false_iff_ne]; exact he
      have t2 : decide (er = 0) = false := decide_eq_false he
      go_wp2_with fail
      go_ret
      exact ⟨rfl, rfl⟩
/-! ### take -/
set_option maxRecDepth 100000 in
set_option maxHeartbeats 2000000 in
theorem ptake_line (A : Nat → Prop) (b bl most : Nat) (kind l0 l1 l2 l3 l4 : Int) (P : PSt) (line : ByteArray) (w : World) (h : PR A b bl most kind l0 l1 l2 l3 l4 P w) (hl : line.size ≠ 0) (hg : P.got.length ≤ 1000000) :
    Calls Tryz.prog 59 #[.pointer (some ⟨b, 0, none⟩), .string line] w fun e w' => e = .returned (.tuple #[]) ∧ PTo A b bl most kind l0 l1 l2 l3 l4 { P with got := P.got ++ [line] } w w' := by
  have HAB := Kp.mk (And.intro h.ab h.al)
  obtain ⟨tv, gv, fv, h1, h2, h3, h4, h5, h6, h7⟩ := h.ex
  have c7 := blk_cell (i := 7) h1 rfl
  have H1 := Kp.mk h1
  have H2 := Kp.mk h2
  have H3 := Kp.mk h3
  have H4 := Kp.mk h4
  have H5 := Kp.mk h5
  have H6 := Kp.mk h6
  have H7 := Kp.mk h7
  obtain ⟨ga, gc, rfl⟩ := own_lenH h3
  obtain ⟨em1, em2⟩ := emp_ne hl
  have hlen : (P.got.length + 1) * 16 ≤ 140737488355328 := by omega
  have hmx : P.got.length + 1 ≤ maxLen := by unfold maxLen; omega
  have hbl := blk_lt h1
  clear h h1 h2 h3 h4 h5 h6 h7 hl
  go_enter Tryz.func59, Tryz.ntmps59
  go_wp2_with (at_builtin; refine app_any rfl _ _ _ _ rfl Tryz.underlying24 _ _ _ Tryz.infoSH rfl (by omega) 0 _ _ _ rfl H3.out #[.string line] rfl (fun u hu => by simp at hu; subst hu; rfl) _ rfl rfl hlen hmx (Nat.zero_le _) ?_; intro g' cap' w2 h1 h2 h3; have h2s := Kp.mk h2.size; have G1 := Kp.mk h1; have G2 := Kp.mk h2; have G3 := Kp.mk h3; have hb2 := (h2.block b (by simp; omega) (fun e => own_blk_ne H3.out H1.out (by decide) e.symm)).trans (blk_alloc H1.out); have f7 := blk_free (i := 7) hb2; have e7 := blk_cell (i := 7) hb2 rfl; have HB2 := Kp.mk hb2; clear h1 h2 h3 hb2)
  go_end0
  have hs2 : w.heap.size + 1 ≤ w2.heap.size := by have := h2s.out; rw [World.size_alloc] at this; exact this
  have K : ∀ k, k < w.heap.size → k ≠ b → Value.ownBlock (.slice ga P.got.length gc) ≠ some k → (w2.setCell ⟨b, 7, none⟩ (.slice (some ⟨g', 0, none⟩) (P.got.length + 1) cap')).heap[k]? = w.heap[k]? := fun k hk h1 h2 =>
    (Below.heap_setCell _ _ _ _ h1).trans ((G2.out.block k (by simp; omega) (fun e => h2 e.symm)).trans (Below.heap_alloc w _ k hk))
  have nb : bl ≠ b := fun e => by
    have h8 := H2.out.blk
    rw [e, H1.out] at h8
    revert h8
    simp
  refine ⟨rfl, fun k => A k ∨ w.heap.size ≤ k, ⟨⟨tv, .slice (some ⟨g', 0, none⟩) (P.got.length + 1) cap', fv, (blk_set HB2.out _).trans rfl, ?_, ?_, ?_, fun k hk => .inl (H5.out k hk), ?_, fun k hk => .inl (H7.out k hk)⟩, .inl HAB.out.1, .inl HAB.out.2⟩, fun k hk => hk, ?_⟩
  · refine H2.out.kept fun k hk hkk => ?_
    rcases hkk with rfl | hkk
    · exact K k hk nb (own_blk_ne H3.out H2.out.blk (by decide))
    · exact K k hk (fun e => own_blk_ne H2.out.own H1.out (by decide) (e ▸ hkk)) (own_own_ne H2.out.own H3.out (by decide) k hkk)
  · have h9 := own_kptH (w' := w2.setCell ⟨b, 7, none⟩ (.slice (some ⟨g', 0, none⟩) (P.got.length + 1) cap')) G1.out (fun k hk e => Below.heap_setCell _ _ _ _ (fun e2 => own_blk_ne G1.out HB2.out (by decide) (e.trans (congrArg some e2))))
    show World.ownsRow _ _ _ _ _ (P.got ++ [line]).length (svH (P.got ++ [line]))
    rw [List.length_append, svH_snoc]
    exact h9
  · exact own_kptH H4.out fun k hk e => K k hk (fun e2 => own_blk_ne H4.out H1.out (by decide) (e2 ▸ e)) (own_own_ne H4.out H3.out (by decide) k e)
  · intro k hk
    simp [Value.ownBlock] at hk
    subst hk
    rcases G3.out with h | h
    · exact .inl (H6.out _ h)
    · exact .inr (by rw [h]; omega)
  · exact ⟨G2.out.os, G2.out.tape, G2.out.output, by simp [World.setCell]; omega, fun k hk hA => K k hk (fun e => hA (e ▸ HAB.out.1)) (fun e => hA (H6.out k e))⟩
set_option maxRecDepth 100000 in
set_option maxHeartbeats 4000000 in
theorem ptake_end (A : Nat → Prop) (b bl most : Nat) (kind l0 l1 l2 l3 l4 : Int) (P : PSt) (w : World) (h : PR A b bl most kind l0 l1 l2 l3 l4 P w) (hk : P.got ≠ [] ∨ kind = 2) (hgl : P.got.length ≤ 1000) (hgz : ∀ s ∈ P.got, s.size ≤ 900) (hl1 : -9223372036854775808 ≤ l1 ∧ l1 ≤ 9223372036854775807) :
    Calls Tryz.prog 59 #[.pointer (some ⟨b, 0, none⟩), .string ⟨#[]⟩] w fun e w' => e = .returned (.tuple #[]) ∧ PTo A b bl most kind l0 l1 l2 l3 l4 { P with ended := true, hd := (prH kind l1 l4 P.got).1, err := (prH kind l1 l4 P.got).2 } w w' := by
  have HAB := Kp.mk (And.intro h.ab h.al)
  obtain ⟨tv, gv, fv, h1, h2, h3, h4, h5, h6, h7⟩ := h.ex
  obtain ⟨ga, gc, rfl⟩ := own_lenH h3
  obtain ⟨n, hn⟩ : ∃ n, P.got.length = n := ⟨_, rfl⟩
  rw [hn] at h1 h3
  have H1 := Kp.mk h1
  have H2 := Kp.mk h2
  have H3 := Kp.mk h3
  have H5 := Kp.mk h5
  have H6 := Kp.mk (show ∀ k, Value.ownBlock (.slice ga n gc) = some k → A k by rw [← hn]; exact h6)
  have c1 := blk_cell (i := 1) h1 rfl
  have c7 := blk_cell (i := 7) h1 rfl
  have c8 := blk_cell (i := 8) h1 rfl
  have f8 := blk_free (i := 8) h1
  have HR0 := Kp.mk (show (w.setCell ⟨b, 8, none⟩ (.bool true)).heap[b]? = some (.cells #[.pointer (some ⟨bl, 0, none⟩), .int .i64 kind, .int .i64 l0, .int .i64 l1, .int .i64 l2, .int .i64 l3, .int .i64 l4, .slice ga n gc, .bool true, .string P.hd.m, .string P.hd.t, .int .i64 P.hd.mi, .int .i64 P.hd.st, .string P.hd.r, fv, .int .i64 P.err] 76 (0, 0)) from (blk_set h1 _).trans rfl)
  have HP := Kp.mk (fun (W : World) (hv : RdS W (.slice ga n gc) P.got) => hparse_any kind l0 l1 l2 l3 l4 _ P.got W hv hgl hgz hl1)
  have hbl := blk_lt h1
  have HK0 := Kp.mk (show (0 : Int) < (n : Int) ∨ (n = 0 ∧ kind = 2) from by
    rcases Nat.eq_zero_or_pos n with h0 | h0
    · refine .inr ⟨h0, hk.resolve_left fun e => e (List.eq_nil_of_length_eq_zero (hn.trans h0))⟩
    · exact .inl (by omega))
  generalize prH kind l1 l4 P.got = RR at *
  obtain ⟨R, re⟩ := RR
  unfold RetHd hdV at HP
  dsimp only at HP ⊢
  clear h h1 h2 h3 h4 h5 h6 h7 hk hgz hl1 hgl
  have HR2 := Kp.mk (show (w.setCell ⟨b, 8, none⟩ (.bool true)).drew.heap[b]? = some (.cells #[.pointer (some ⟨bl, 0, none⟩), .int .i64 kind, .int .i64 l0, .int .i64 l1, .int .i64 l2, .int .i64 l3, .int .i64 l4, .slice ga n gc, .bool true, .string P.hd.m, .string P.hd.t, .int .i64 P.hd.mi, .int .i64 P.hd.st, .string P.hd.r, fv, .int .i64 P.err] 76 (0, 0)) from HR0.out)
  have HGV := Kp.mk (show RdS ((w.setCell ⟨b, 8, none⟩ (.bool true))).drew (.slice ga n gc) P.got from rds_own (l := P.got) (by rw [hn]; exact own_kptH (w' := (w.setCell ⟨b, 8, none⟩ (.bool true)).drew) H3.out (fun k hk e => (show (w.setCell ⟨b, 8, none⟩ (.bool true)).drew.heap[k]? = w.heap[k]? from Below.heap_setCell _ _ _ _ (fun e2 => own_blk_ne H3.out H1.out (by decide) (e.trans (congrArg some e2)))))))
  have HS1 := Kp.mk (show (w.setCell ⟨b, 8, none⟩ (.bool true)).drew.heap.size = w.heap.size from by simp [World.setCell])
  have HNN := Kp.mk hn
  clear HR0 hn
  rcases HK0.out with hk1 | ⟨rfl, hk3⟩
  · go_enter Tryz.func59, Tryz.ntmps59
    go_upto_region 4 with fail
    clear c1 c7 c8 f8
    clear HK0
    try clear hk4
    refine wp_region_held_drew (S := fun w' => w'.cell? ⟨b, 1, none⟩ = some (.int .i64 kind) ∧ w'.rangeAt b 2 [.int .i64 l0, .int .i64 l1, .int .i64 l2, .int .i64 l3, .int .i64 l4] ∧ w'.cell? ⟨b, 7, none⟩ = some (.slice ga n gc)) (by kernel_rfl) (⟨blk_cell (i := 1) HR2.out rfl, (fun j v hj => match j, hj with | 0, q => blk_cell (i := 2) HR2.out q | 1, q => blk_cell (i := 3) HR2.out q | 2, q => blk_cell (i := 4) HR2.out q | 3, q => blk_cell (i := 5) HR2.out q | 4, q => blk_cell (i := 6) HR2.out q | n + 5, q => by simp at q), blk_cell (i := 7) HR2.out rfl⟩) (fun hHeld => ?_)
    refine wpAnyH_take (i := 0) (oi := ⟨some 35, .move (.tmp 0), _, _, _, none⟩) (v := ?_) rfl (by kernel_rfl) (by kernel_rfl) (by kernel_rfl) (fun _ _ _ h => h) (Or.inl ⟨by rfl, ?_⟩) (by assumption) ?_
    rotate_left
    · intro w hSw
      try dsimp only at hSw
      go_simp
      try with_reducible rfl
    try simp only [Act.put, List.setIfInBounds_toArray, List.set_cons_zero, List.set_cons_succ]
    refine wpAnyH_take (i := 1) (oi := ⟨some 36, .move (.tmp 0), _, _, _, none⟩) (v := ?_) rfl (by kernel_rfl) (by kernel_rfl) (by kernel_rfl) (fun _ _ _ h => h) (Or.inl ⟨by rfl, ?_⟩) (by assumption) ?_
    rotate_left
    · intro w hSw
      try dsimp only at hSw
      go_simp
      try with_reducible rfl
    try simp only [Act.put, List.setIfInBounds_toArray, List.set_cons_zero, List.set_cons_succ]
    refine wpAnyH_take (i := 2) (oi := ⟨some 37, .move (.tmp 0), _, _, _, none⟩) (v := ?_) rfl (by kernel_rfl) (by kernel_rfl) (by kernel_rfl) (fun _ _ _ h => h) (Or.inl ⟨by rfl, ?_⟩) (by assumption) ?_
    rotate_left
    · intro w hSw
      try dsimp only at hSw
      go_simp
      try with_reducible rfl
    try simp only [Act.put, List.setIfInBounds_toArray, List.set_cons_zero, List.set_cons_succ]
    refine wpAnyH_take (i := 3) (oi := ⟨some 38, .nilCheck (.tmp 37), _, _, _, none⟩) (v := ?_) rfl (by kernel_rfl) (by kernel_rfl) (by kernel_rfl) (fun _ _ _ h => h) (Or.inl ⟨by rfl, ?_⟩) (by assumption) ?_
    rotate_left
    · intro w hSw
      try dsimp only at hSw
      go_simp
      try with_reducible rfl
    try simp only [Act.put, List.setIfInBounds_toArray, List.set_cons_zero, List.set_cons_succ]
    refine wpAnyH_take (i := 4) (oi := ⟨some 39, .fieldAddr 76 (.tmp 38) 1, _, _, _, none⟩) (v := ?_) rfl (by kernel_rfl) (by kernel_rfl) (by kernel_rfl) (fun _ _ _ h => h) (Or.inl ⟨by rfl, ?_⟩) (by assumption) ?_
    rotate_left
    · intro w hSw
      try dsimp only at hSw
      go_simp
      try with_reducible rfl
    try simp only [Act.put, List.setIfInBounds_toArray, List.set_cons_zero, List.set_cons_succ]
    refine wpAnyH_take (i := 5) (oi := ⟨some 40, .load 3 (.tmp 39), _, _, _, none⟩) (v := ?_) rfl (by kernel_rfl) (by kernel_rfl) (by kernel_rfl) (fun _ _ _ h => h) (Or.inl ⟨by rfl, ?_⟩) (by assumption) ?_
    rotate_left
    · intro w hSw
      try dsimp only at hSw
      go_simp
      try with_reducible rfl
    try simp only [Act.put, List.setIfInBounds_toArray, List.set_cons_zero, List.set_cons_succ]
    refine wpAnyH_take (i := 6) (oi := ⟨some 41, .move (.tmp 0), _, _, _, none⟩) (v := ?_) rfl (by kernel_rfl) (by kernel_rfl) (by kernel_rfl) (fun _ _ _ h => h) (Or.inl ⟨by rfl, ?_⟩) (by assumption) ?_
    rotate_left
    · intro w hSw
      try dsimp only at hSw
      go_simp
      try with_reducible rfl
    try simp only [Act.put, List.setIfInBounds_toArray, List.set_cons_zero, List.set_cons_succ]
    refine wpAnyH_take (i := 7) (oi := ⟨some 42, .nilCheck (.tmp 41), _, _, _, none⟩) (v := ?_) rfl (by kernel_rfl) (by kernel_rfl) (by kernel_rfl) (fun _ _ _ h => h) (Or.inl ⟨by rfl, ?_⟩) (by assumption) ?_
    rotate_left
    · intro w hSw
      try dsimp only at hSw
      go_simp
      try with_reducible rfl
    try simp only [Act.put, List.setIfInBounds_toArray, List.set_cons_zero, List.set_cons_succ]
    refine wpAnyH_take (i := 8) (oi := ⟨some 43, .fieldAddr 76 (.tmp 42) 2, _, _, _, none⟩) (v := ?_) rfl (by kernel_rfl) (by kernel_rfl) (by kernel_rfl) (fun _ _ _ h => h) (Or.inl ⟨by rfl, ?_⟩) (by assumption) ?_
    rotate_left
    · intro w hSw
      try dsimp only at hSw
      go_simp
      try with_reducible rfl
    try simp only [Act.put, List.setIfInBounds_toArray, List.set_cons_zero, List.set_cons_succ]
    refine wpAnyH_take (i := 9) (oi := ⟨some 44, .load 23 (.tmp 43), _, _, _, none⟩) (v := .agg #[.int .i64 l0, .int .i64 l1, .int .i64 l2, .int .i64 l3, .int .i64 l4]) rfl (by kernel_rfl) (by kernel_rfl) (by kernel_rfl) (fun _ _ _ h => h) (yieldsIf_load_mid (by rfl) _ _ rfl b 2 rfl [.int .i64 l0, .int .i64 l1, .int .i64 l2, .int .i64 l3, .int .i64 l4] _ (fun w9 hw9 => hw9.2.1) Tryz.underlying23 rfl (by kernel_rfl)) (by assumption) ?_
    try simp only [Act.put, List.setIfInBounds_toArray, List.set_cons_zero, List.set_cons_succ]
    refine wpAnyH_take (i := 10) (oi := ⟨some 45, .move (.tmp 0), _, _, _, none⟩) (v := ?_) rfl (by kernel_rfl) (by kernel_rfl) (by kernel_rfl) (fun _ _ _ h => h) (Or.inl ⟨by rfl, ?_⟩) (by assumption) ?_
    rotate_left
    · intro w hSw
      try dsimp only at hSw
      go_simp
      try with_reducible rfl
    try simp only [Act.put, List.setIfInBounds_toArray, List.set_cons_zero, List.set_cons_succ]
    refine wpAnyH_take (i := 11) (oi := ⟨some 46, .nilCheck (.tmp 45), _, _, _, none⟩) (v := ?_) rfl (by kernel_rfl) (by kernel_rfl) (by kernel_rfl) (fun _ _ _ h => h) (Or.inl ⟨by rfl, ?_⟩) (by assumption) ?_
    rotate_left
    · intro w hSw
      try dsimp only at hSw
      go_simp
      try with_reducible rfl
    try simp only [Act.put, List.setIfInBounds_toArray, List.set_cons_zero, List.set_cons_succ]
    refine wpAnyH_take (i := 12) (oi := ⟨some 47, .fieldAddr 76 (.tmp 46) 3, _, _, _, none⟩) (v := ?_) rfl (by kernel_rfl) (by kernel_rfl) (by kernel_rfl) (fun _ _ _ h => h) (Or.inl ⟨by rfl, ?_⟩) (by assumption) ?_
    rotate_left
    · intro w hSw
      try dsimp only at hSw
      go_simp
      try with_reducible rfl
    try simp only [Act.put, List.setIfInBounds_toArray, List.set_cons_zero, List.set_cons_succ]
    refine wpAnyH_take (i := 13) (oi := ⟨some 48, .load 24 (.tmp 47), _, _, _, none⟩) (v := ?_) rfl (by kernel_rfl) (by kernel_rfl) (by kernel_rfl) (fun _ _ _ h => h) (Or.inl ⟨by rfl, ?_⟩) (by assumption) ?_
    rotate_left
    · intro w hSw
      try dsimp only at hSw
      go_simp
      try with_reducible rfl
    try simp only [Act.put, List.setIfInBounds_toArray, List.set_cons_zero, List.set_cons_succ]
    refine wpAnyH_ready (rs := [14]) (by kernel_rfl) (by simp) ?_
    refine AllReadyH.cons (o := ⟨some 49, _, _, _, _, none⟩) rfl (fun K hK => ?_) AllReadyH.nil
    go_simp
    (go_at_call 9; refine (HP.out _ HGV.out).mono ?_; rintro e w3 ⟨u, rfl, hu, hb3⟩)
    obtain ⟨ua, uc, rfl⟩ := own_lenH hu
    have HU := Kp.mk hu
    have HB3 := Kp.mk hb3
    have HR3 := Kp.mk ((hb3.block _ (blk_lt HR2.out)).trans HR2.out)
    clear hu hb3
    try go_wp2_with fail
    refine hK.out _ _ (⟨blk_cell (i := 1) HR3.out rfl, (fun j v hj => match j, hj with | 0, q => blk_cell (i := 2) HR3.out q | 1, q => blk_cell (i := 3) HR3.out q | 2, q => blk_cell (i := 4) HR3.out q | 3, q => blk_cell (i := 5) HR3.out q | 4, q => blk_cell (i := 6) HR3.out q | n + 5, q => by simp at q), blk_cell (i := 7) HR3.out rfl⟩) (fun hHeld2 => ?_)
    clear hK K
    try simp only [Act.put, List.setIfInBounds_toArray, List.set_cons_zero, List.set_cons_succ]
    refine wpAnyH_take (i := 15) (oi := ⟨some 34, .move (.tmp 49), _, _, _, none⟩) (v := ?_) rfl (by kernel_rfl) (by kernel_rfl) (by kernel_rfl) (fun _ _ _ h => h) (Or.inl ⟨by rfl, ?_⟩) (by assumption) ?_
    rotate_left
    · intro w hSw
      try dsimp only at hSw
      go_simp
      try with_reducible rfl
    try simp only [Act.put, List.setIfInBounds_toArray, List.set_cons_zero, List.set_cons_succ]
    refine wpAnyH_take (i := 16) (oi := ⟨some 50, .extract (.tmp 34) 0, _, _, _, none⟩) (v := ?_) rfl (by kernel_rfl) (by kernel_rfl) (by kernel_rfl) (fun _ _ _ h => h) (Or.inl ⟨by rfl, ?_⟩) (by assumption) ?_
    rotate_left
    · intro w hSw
      try dsimp only at hSw
      go_simp
      try with_reducible rfl
    try simp only [Act.put, List.setIfInBounds_toArray, List.set_cons_zero, List.set_cons_succ]
    refine wpAnyH_take (i := 17) (oi := ⟨some 51, .extract (.tmp 34) 1, _, _, _, none⟩) (v := ?_) rfl (by kernel_rfl) (by kernel_rfl) (by kernel_rfl) (fun _ _ _ h => h) (Or.inl ⟨by rfl, ?_⟩) (by assumption) ?_
    rotate_left
    · intro w hSw
      try dsimp only at hSw
      go_simp
      try with_reducible rfl
    try simp only [Act.put, List.setIfInBounds_toArray, List.set_cons_zero, List.set_cons_succ]
    refine wpAnyH_take (i := 18) (oi := ⟨some 52, .nilCheck (.tmp 35), _, _, _, none⟩) (v := ?_) rfl (by kernel_rfl) (by kernel_rfl) (by kernel_rfl) (fun _ _ _ h => h) (Or.inl ⟨by rfl, ?_⟩) (by assumption) ?_
    rotate_left
    · intro w hSw
      try dsimp only at hSw
      go_simp
      try with_reducible rfl
    try simp only [Act.put, List.setIfInBounds_toArray, List.set_cons_zero, List.set_cons_succ]
    refine wpAnyH_take (i := 19) (oi := ⟨some 53, .fieldAddr 76 (.tmp 52) 5, _, _, _, none⟩) (v := ?_) rfl (by kernel_rfl) (by kernel_rfl) (by kernel_rfl) (fun _ _ _ h => h) (Or.inl ⟨by rfl, ?_⟩) (by assumption) ?_
    rotate_left
    · intro w hSw
      try dsimp only at hSw
      go_simp
      try with_reducible rfl
    try simp only [Act.put, List.setIfInBounds_toArray, List.set_cons_zero, List.set_cons_succ]
    refine wpAnyH_ready (rs := [20]) (by kernel_rfl) (by simp) ?_
    refine AllReadyH.cons (o := ⟨none, _, _, _, _, none⟩) rfl (fun K hK => ?_) AllReadyH.nil
    have HTH := Kp.mk (show w3.there b 9 6 from fun j hj => ⟨by
      obtain ⟨v, hv⟩ : ∃ v, (#[.pointer (some ⟨bl, 0, none⟩), .int .i64 kind, .int .i64 l0, .int .i64 l1, .int .i64 l2, .int .i64 l3, .int .i64 l4, .slice ga n gc, .bool true, .string P.hd.m, .string P.hd.t, .int .i64 P.hd.mi, .int .i64 P.hd.st, .string P.hd.r, fv, .int .i64 P.err] : Array Value)[9 + j]? = some v := ⟨_, Array.getElem?_eq_getElem (show 9 + j < 16 by omega)⟩
      rw [blk_cell HR3.out hv]; rfl, blk_free HR3.out⟩)
    refine wp_store_mid _ _ _ (by rfl) b 9 #[.string R.m, .string R.t, .int .i64 R.mi, .int .i64 R.st, .string R.r, .slice ua R.f.length uc] (by rfl) (by rfl) HTH.out (by kernel_rfl) (by simp [Value.oneCell']) ?_
    simp only [Act.put]
    have HR4 := Kp.mk (show (w3.setCells b 9 [.string R.m, .string R.t, .int .i64 R.mi, .int .i64 R.st, .string R.r, .slice ua R.f.length uc]).heap[b]? = some (.cells #[.pointer (some ⟨bl, 0, none⟩), .int .i64 kind, .int .i64 l0, .int .i64 l1, .int .i64 l2, .int .i64 l3, .int .i64 l4, .slice ga n gc, .bool true, .string R.m, .string R.t, .int .i64 R.mi, .int .i64 R.st, .string R.r, .slice ua R.f.length uc, .int .i64 P.err] 76 (0, 0)) from
      (blk_set (blk_set (blk_set (blk_set (blk_set (blk_set HR3.out _) _) _) _) _) _).trans rfl)
    have HX4 := Kp.mk (setCells_kept b [.string R.m, .string R.t, .int .i64 R.mi, .int .i64 R.st, .string R.r, .slice ua R.f.length uc] 9 w3)
    refine hK.out _ _ (⟨blk_cell (i := 1) HR4.out rfl, (fun j v hj => match j, hj with | 0, q => blk_cell (i := 2) HR4.out q | 1, q => blk_cell (i := 3) HR4.out q | 2, q => blk_cell (i := 4) HR4.out q | 3, q => blk_cell (i := 5) HR4.out q | 4, q => blk_cell (i := 6) HR4.out q | n + 5, q => by simp at q), blk_cell (i := 7) HR4.out rfl⟩) (fun hHeld2 => ?_)
    clear hK K
    try simp only [Act.put, List.setIfInBounds_toArray, List.set_cons_zero, List.set_cons_succ]
    generalize w3.setCells b 9 [.string R.m, .string R.t, .int .i64 R.mi, .int .i64 R.st, .string R.r, .slice ua R.f.length uc] = w4 at *
    
    refine wpAnyH_take (i := 21) (oi := ⟨some 54, .nilCheck (.tmp 36), _, _, _, none⟩) (v := ?_) rfl (by kernel_rfl) (by kernel_rfl) (by kernel_rfl) (fun _ _ _ h => h) (Or.inl ⟨by rfl, ?_⟩) (by assumption) ?_
    rotate_left
    · intro w hSw
      try dsimp only at hSw
      go_simp
      try with_reducible rfl
    try simp only [Act.put, List.setIfInBounds_toArray, List.set_cons_zero, List.set_cons_succ]
    refine wpAnyH_take (i := 22) (oi := ⟨some 55, .fieldAddr 76 (.tmp 54) 6, _, _, _, none⟩) (v := ?_) rfl (by kernel_rfl) (by kernel_rfl) (by kernel_rfl) (fun _ _ _ h => h) (Or.inl ⟨by rfl, ?_⟩) (by assumption) ?_
    rotate_left
    · intro w hSw
      try dsimp only at hSw
      go_simp
      try with_reducible rfl
    try simp only [Act.put, List.setIfInBounds_toArray, List.set_cons_zero, List.set_cons_succ]
    refine wpAnyH_ready (rs := [23]) (by kernel_rfl) (by simp) ?_
    refine AllReadyH.cons (o := ⟨none, _, _, _, _, none⟩) rfl (fun K hK => ?_) AllReadyH.nil
    have k15 := blk_cell (i := 15) HR4.out rfl
    have f15 := blk_free (i := 15) HR4.out
    go_simp
    have HR5 := Kp.mk (show (w4.setCell ⟨b, 15, none⟩ (.int .i64 re)).heap[b]? = some (.cells #[.pointer (some ⟨bl, 0, none⟩), .int .i64 kind, .int .i64 l0, .int .i64 l1, .int .i64 l2, .int .i64 l3, .int .i64 l4, .slice ga n gc, .bool true, .string R.m, .string R.t, .int .i64 R.mi, .int .i64 R.st, .string R.r, .slice ua R.f.length uc, .int .i64 re] 76 (0, 0)) from (blk_set HR4.out _).trans rfl)
    refine hK.out _ _ (⟨blk_cell (i := 1) HR5.out rfl, (fun j v hj => match j, hj with | 0, q => blk_cell (i := 2) HR5.out q | 1, q => blk_cell (i := 3) HR5.out q | 2, q => blk_cell (i := 4) HR5.out q | 3, q => blk_cell (i := 5) HR5.out q | 4, q => blk_cell (i := 6) HR5.out q | n + 5, q => by simp at q), blk_cell (i := 7) HR5.out rfl⟩) (fun hHeld2 => ?_)
    clear hK K
    
    refine wpAnyH_done (by kernel_rfl) ?_ _
    go_end0
    have KK : ∀ k, k < w.heap.size → k ≠ b → (w4.setCell ⟨b, 15, none⟩ (.int .i64 re)).heap[k]? = w.heap[k]? := fun k hk h1 =>
      (Below.heap_setCell _ _ _ _ h1).trans ((HX4.out.2.2.2.2 k h1).trans ((HB3.out.block k (by rw [HS1.out]; exact hk)).trans (show (w.setCell ⟨b, 8, none⟩ (.bool true)).drew.heap[k]? = w.heap[k]? from Below.heap_setCell _ _ _ _ h1)))
    have nb : bl ≠ b := fun e => by
      have h8 := H2.out.blk
      rw [e, H1.out] at h8
      revert h8
      simp
    have hz3 := HB3.out.size
    refine ⟨rfl, fun k => A k ∨ w.heap.size ≤ k, ⟨⟨tv, .slice ga n gc, .slice ua R.f.length uc, HR5.out, ?_, ?_, ?_, fun k hk => .inl (H5.out k hk), fun k hk => .inl (H6.out k hk), ?_⟩, .inl HAB.out.1, .inl HAB.out.2⟩, fun k hk => hk, ?_⟩
    · refine H2.out.kept fun k hk hkk => ?_
      rcases hkk with rfl | hkk
      · exact KK k hk nb
      · exact KK k hk (fun e => own_blk_ne H2.out.own H1.out (by decide) (e ▸ hkk))
    · show World.ownsRow _ _ _ _ _ P.got.length _
      rw [HNN.out]
      exact own_kptH H3.out fun k hk e => KK k hk (fun e2 => own_blk_ne H3.out H1.out (by decide) (e2 ▸ e))
    · exact own_kptH (w' := w4.setCell ⟨b, 15, none⟩ (.int .i64 re)) (own_lowF HU.out (Nat.zero_le _)) fun k hk e => (Below.heap_setCell _ _ _ _ (fun e2 => own_blk_ne HU.out HR3.out (by decide) (e.trans (congrArg some e2)))).trans (HX4.out.2.2.2.2 k (fun e2 => own_blk_ne HU.out HR3.out (by decide) (e.trans (congrArg some e2))))
    · intro k hk
      have := (HU.out.lt k hk).1
      rw [HS1.out] at this
      exact .inr this
    · exact ⟨HX4.out.1.trans HB3.out.os, HX4.out.2.1.trans HB3.out.tape, HX4.out.2.2.1.trans HB3.out.output, by rw [HS1.out] at hz3; simp [World.setCell]; rw [HX4.out.2.2.2.1]; exact hz3, fun k hk hA => KK k hk (fun e => hA (e ▸ HAB.out.1))⟩
  · have hk4 : (kind == 2) = true := by rw [beq_iff_eq]; exact hk3
    clear hk3
    go_enter Tryz.func59, Tryz.ntmps59
    go_upto_region 4 with fail
    clear c1 c7 c8 f8
    clear HK0
    try clear hk4
    refine wp_region_held_drew (S := fun w' => w'.cell? ⟨b, 1, none⟩ = some (.int .i64 kind) ∧ w'.rangeAt b 2 [.int .i64 l0, .int .i64 l1, .int .i64 l2, .int .i64 l3, .int .i64 l4] ∧ w'.cell? ⟨b, 7, none⟩ = some (.slice ga 0 gc)) (by kernel_rfl) (⟨blk_cell (i := 1) HR2.out rfl, (fun j v hj => match j, hj with | 0, q => blk_cell (i := 2) HR2.out q | 1, q => blk_cell (i := 3) HR2.out q | 2, q => blk_cell (i := 4) HR2.out q | 3, q => blk_cell (i := 5) HR2.out q | 4, q => blk_cell (i := 6) HR2.out q | n + 5, q => by simp at q), blk_cell (i := 7) HR2.out rfl⟩) (fun hHeld => ?_)
    refine wpAnyH_take (i := 0) (oi := ⟨some 35, .move (.tmp 0), _, _, _, none⟩) (v := ?_) rfl (by kernel_rfl) (by kernel_rfl) (by kernel_rfl) (fun _ _ _ h => h) (Or.inl ⟨by rfl, ?_⟩) (by assumption) ?_
    rotate_left
    · intro w hSw
      try dsimp only at hSw
      go_simp
      try with_reducible rfl
    try simp only [Act.put, List.setIfInBounds_toArray, List.set_cons_zero, List.set_cons_succ]
    refine wpAnyH_take (i := 1) (oi := ⟨some 36, .move (.tmp 0), _, _, _, none⟩) (v := ?_) rfl (by kernel_rfl) (by kernel_rfl) (by kernel_rfl) (fun _ _ _ h => h) (Or.inl ⟨by rfl, ?_⟩) (by assumption) ?_
    rotate_left
    · intro w hSw
      try dsimp only at hSw
      go_simp
      try with_reducible rfl
    try simp only [Act.put, List.setIfInBounds_toArray, List.set_cons_zero, List.set_cons_succ]
    refine wpAnyH_take (i := 2) (oi := ⟨some 37, .move (.tmp 0), _, _, _, none⟩) (v := ?_) rfl (by kernel_rfl) (by kernel_rfl) (by kernel_rfl) (fun _ _ _ h => h) (Or.inl ⟨by rfl, ?_⟩) (by assumption) ?_
    rotate_left
    · intro w hSw
      try dsimp only at hSw
      go_simp
      try with_reducible rfl
    try simp only [Act.put, List.setIfInBounds_toArray, List.set_cons_zero, List.set_cons_succ]
    refine wpAnyH_take (i := 3) (oi := ⟨some 38, .nilCheck (.tmp 37), _, _, _, none⟩) (v := ?_) rfl (by kernel_rfl) (by kernel_rfl) (by kernel_rfl) (fun _ _ _ h => h) (Or.inl ⟨by rfl, ?_⟩) (by assumption) ?_
    rotate_left
    · intro w hSw
      try dsimp only at hSw
      go_simp
      try with_reducible rfl
    try simp only [Act.put, List.setIfInBounds_toArray, List.set_cons_zero, List.set_cons_succ]
    refine wpAnyH_take (i := 4) (oi := ⟨some 39, .fieldAddr 76 (.tmp 38) 1, _, _, _, none⟩) (v := ?_) rfl (by kernel_rfl) (by kernel_rfl) (by kernel_rfl) (fun _ _ _ h => h) (Or.inl ⟨by rfl, ?_⟩) (by assumption) ?_
    rotate_left
    · intro w hSw
      try dsimp only at hSw
      go_simp
      try with_reducible rfl
    try simp only [Act.put, List.setIfInBounds_toArray, List.set_cons_zero, List.set_cons_succ]
    refine wpAnyH_take (i := 5) (oi := ⟨some 40, .load 3 (.tmp 39), _, _, _, none⟩) (v := ?_) rfl (by kernel_rfl) (by kernel_rfl) (by kernel_rfl) (fun _ _ _ h => h) (Or.inl ⟨by rfl, ?_⟩) (by assumption) ?_
    rotate_left
    · intro w hSw
      try dsimp only at hSw
      go_simp
      try with_reducible rfl
    try simp only [Act.put, List.setIfInBounds_toArray, List.set_cons_zero, List.set_cons_succ]
    refine wpAnyH_take (i := 6) (oi := ⟨some 41, .move (.tmp 0), _, _, _, none⟩) (v := ?_) rfl (by kernel_rfl) (by kernel_rfl) (by kernel_rfl) (fun _ _ _ h => h) (Or.inl ⟨by rfl, ?_⟩) (by assumption) ?_
    rotate_left
    · intro w hSw
      try dsimp only at hSw
      go_simp
      try with_reducible rfl
    try simp only [Act.put, List.setIfInBounds_toArray, List.set_cons_zero, List.set_cons_succ]
    refine wpAnyH_take (i := 7) (oi := ⟨some 42, .nilCheck (.tmp 41), _, _, _, none⟩) (v := ?_) rfl (by kernel_rfl) (by kernel_rfl) (by kernel_rfl) (fun _ _ _ h => h) (Or.inl ⟨by rfl, ?_⟩) (by assumption) ?_
    rotate_left
    · intro w hSw
      try dsimp only at hSw
      go_simp
      try with_reducible rfl
    try simp only [Act.put, List.setIfInBounds_toArray, List.set_cons_zero, List.set_cons_succ]
    refine wpAnyH_take (i := 8) (oi := ⟨some 43, .fieldAddr 76 (.tmp 42) 2, _, _, _, none⟩) (v := ?_) rfl (by kernel_rfl) (by kernel_rfl) (by kernel_rfl) (fun _ _ _ h => h) (Or.inl ⟨by rfl, ?_⟩) (by assumption) ?_
    rotate_left
    · intro w hSw
      try dsimp only at hSw
      go_simp
      try with_reducible rfl
    try simp only [Act.put, List.setIfInBounds_toArray, List.set_cons_zero, List.set_cons_succ]
    refine wpAnyH_take (i := 9) (oi := ⟨some 44, .load 23 (.tmp 43), _, _, _, none⟩) (v := .agg #[.int .i64 l0, .int .i64 l1, .int .i64 l2, .int .i64 l3, .int .i64 l4]) rfl (by kernel_rfl) (by kernel_rfl) (by kernel_rfl) (fun _ _ _ h => h) (yieldsIf_load_mid (by rfl) _ _ rfl b 2 rfl [.int .i64 l0, .int .i64 l1, .int .i64 l2, .int .i64 l3, .int .i64 l4] _ (fun w9 hw9 => hw9.2.1) Tryz.underlying23 rfl (by kernel_rfl)) (by assumption) ?_
    try simp only [Act.put, List.setIfInBounds_toArray, List.set_cons_zero, List.set_cons_succ]
    refine wpAnyH_take (i := 10) (oi := ⟨some 45, .move (.tmp 0), _, _, _, none⟩) (v := ?_) rfl (by kernel_rfl) (by kernel_rfl) (by kernel_rfl) (fun _ _ _ h => h) (Or.inl ⟨by rfl, ?_⟩) (by assumption) ?_
    rotate_left
    · intro w hSw
      try dsimp only at hSw
      go_simp
      try with_reducible rfl
    try simp only [Act.put, List.setIfInBounds_toArray, List.set_cons_zero, List.set_cons_succ]
    refine wpAnyH_take (i := 11) (oi := ⟨some 46, .nilCheck (.tmp 45), _, _, _, none⟩) (v := ?_) rfl (by kernel_rfl) (by kernel_rfl) (by kernel_rfl) (fun _ _ _ h => h) (Or.inl ⟨by rfl, ?_⟩) (by assumption) ?_
    rotate_left
    · intro w hSw
      try dsimp only at hSw
      go_simp
      try with_reducible rfl
    try simp only [Act.put, List.setIfInBounds_toArray, List.set_cons_zero, List.set_cons_succ]
    refine wpAnyH_take (i := 12) (oi := ⟨some 47, .fieldAddr 76 (.tmp 46) 3, _, _, _, none⟩) (v := ?_) rfl (by kernel_rfl) (by kernel_rfl) (by kernel_rfl) (fun _ _ _ h => h) (Or.inl ⟨by rfl, ?_⟩) (by assumption) ?_
    rotate_left
    · intro w hSw
      try dsimp only at hSw
      go_simp
      try with_reducible rfl
    try simp only [Act.put, List.setIfInBounds_toArray, List.set_cons_zero, List.set_cons_succ]
    refine wpAnyH_take (i := 13) (oi := ⟨some 48, .load 24 (.tmp 47), _, _, _, none⟩) (v := ?_) rfl (by kernel_rfl) (by kernel_rfl) (by kernel_rfl) (fun _ _ _ h => h) (Or.inl ⟨by rfl, ?_⟩) (by assumption) ?_
    rotate_left
    · intro w hSw
      try dsimp only at hSw
      go_simp
      try with_reducible rfl
    try simp only [Act.put, List.setIfInBounds_toArray, List.set_cons_zero, List.set_cons_succ]
    refine wpAnyH_ready (rs := [14]) (by kernel_rfl) (by simp) ?_
    refine AllReadyH.cons (o := ⟨some 49, _, _, _, _, none⟩) rfl (fun K hK => ?_) AllReadyH.nil
    go_simp
    (go_at_call 9; refine (HP.out _ HGV.out).mono ?_; rintro e w3 ⟨u, rfl, hu, hb3⟩)
    obtain ⟨ua, uc, rfl⟩ := own_lenH hu
    have HU := Kp.mk hu
    have HB3 := Kp.mk hb3
    have HR3 := Kp.mk ((hb3.block _ (blk_lt HR2.out)).trans HR2.out)
    clear hu hb3
    try go_wp2_with fail
    refine hK.out _ _ (⟨blk_cell (i := 1) HR3.out rfl, (fun j v hj => match j, hj with | 0, q => blk_cell (i := 2) HR3.out q | 1, q => blk_cell (i := 3) HR3.out q | 2, q => blk_cell (i := 4) HR3.out q | 3, q => blk_cell (i := 5) HR3.out q | 4, q => blk_cell (i := 6) HR3.out q | n + 5, q => by simp at q), blk_cell (i := 7) HR3.out rfl⟩) (fun hHeld2 => ?_)
    clear hK K
    try simp only [Act.put, List.setIfInBounds_toArray, List.set_cons_zero, List.set_cons_succ]
    refine wpAnyH_take (i := 15) (oi := ⟨some 34, .move (.tmp 49), _, _, _, none⟩) (v := ?_) rfl (by kernel_rfl) (by kernel_rfl) (by kernel_rfl) (fun _ _ _ h => h) (Or.inl ⟨by rfl, ?_⟩) (by assumption) ?_
    rotate_left
    · intro w hSw
      try dsimp only at hSw
      go_simp
      try with_reducible rfl
    try simp only [Act.put, List.setIfInBounds_toArray, List.set_cons_zero, List.set_cons_succ]
    refine wpAnyH_take (i := 16) (oi := ⟨some 50, .extract (.tmp 34) 0, _, _, _, none⟩) (v := ?_) rfl (by kernel_rfl) (by kernel_rfl) (by kernel_rfl) (fun _ _ _ h => h) (Or.inl ⟨by rfl, ?_⟩) (by assumption) ?_
    rotate_left
    · intro w hSw
      try dsimp only at hSw
      go_simp
      try with_reducible rfl
    try simp only [Act.put, List.setIfInBounds_toArray, List.set_cons_zero, List.set_cons_succ]
    refine wpAnyH_take (i := 17) (oi := ⟨some 51, .extract (.tmp 34) 1, _, _, _, none⟩) (v := ?_) rfl (by kernel_rfl) (by kernel_rfl) (by kernel_rfl) (fun _ _ _ h => h) (Or.inl ⟨by rfl, ?_⟩) (by assumption) ?_
    rotate_left
    · intro w hSw
      try dsimp only at hSw
      go_simp
      try with_reducible rfl
    try simp only [Act.put, List.setIfInBounds_toArray, List.set_cons_zero, List.set_cons_succ]
    refine wpAnyH_take (i := 18) (oi := ⟨some 52, .nilCheck (.tmp 35), _, _, _, none⟩) (v := ?_) rfl (by kernel_rfl) (by kernel_rfl) (by kernel_rfl) (fun _ _ _ h => h) (Or.inl ⟨by rfl, ?_⟩) (by assumption) ?_
    rotate_left
    · intro w hSw
      try dsimp only at hSw
      go_simp
      try with_reducible rfl
    try simp only [Act.put, List.setIfInBounds_toArray, List.set_cons_zero, List.set_cons_succ]
    refine wpAnyH_take (i := 19) (oi := ⟨some 53, .fieldAddr 76 (.tmp 52) 5, _, _, _, none⟩) (v := ?_) rfl (by kernel_rfl) (by kernel_rfl) (by kernel_rfl) (fun _ _ _ h => h) (Or.inl ⟨by rfl, ?_⟩) (by assumption) ?_
    rotate_left
    · intro w hSw
      try dsimp only at hSw
      go_simp
      try with_reducible rfl
    try simp only [Act.put, List.setIfInBounds_toArray, List.set_cons_zero, List.set_cons_succ]
    refine wpAnyH_ready (rs := [20]) (by kernel_rfl) (by simp) ?_
    refine AllReadyH.cons (o := ⟨none, _, _, _, _, none⟩) rfl (fun K hK => ?_) AllReadyH.nil
    have HTH := Kp.mk (show w3.there b 9 6 from fun j hj => ⟨by
      obtain ⟨v, hv⟩ : ∃ v, (#[.pointer (some ⟨bl, 0, none⟩), .int .i64 kind, .int .i64 l0, .int .i64 l1, .int .i64 l2, .int .i64 l3, .int .i64 l4, .slice ga 0 gc, .bool true, .string P.hd.m, .string P.hd.t, .int .i64 P.hd.mi, .int .i64 P.hd.st, .string P.hd.r, fv, .int .i64 P.err] : Array Value)[9 + j]? = some v := ⟨_, Array.getElem?_eq_getElem (show 9 + j < 16 by omega)⟩
      rw [blk_cell HR3.out hv]; rfl, blk_free HR3.out⟩)
    refine wp_store_mid _ _ _ (by rfl) b 9 #[.string R.m, .string R.t, .int .i64 R.mi, .int .i64 R.st, .string R.r, .slice ua R.f.length uc] (by rfl) (by rfl) HTH.out (by kernel_rfl) (by simp [Value.oneCell']) ?_
    simp only [Act.put]
    have HR4 := Kp.mk (show (w3.setCells b 9 [.string R.m, .string R.t, .int .i64 R.mi, .int .i64 R.st, .string R.r, .slice ua R.f.length uc]).heap[b]? = some (.cells #[.pointer (some ⟨bl, 0, none⟩), .int .i64 kind, .int .i64 l0, .int .i64 l1, .int .i64 l2, .int .i64 l3, .int .i64 l4, .slice ga 0 gc, .bool true, .string R.m, .string R.t, .int .i64 R.mi, .int .i64 R.st, .string R.r, .slice ua R.f.length uc, .int .i64 P.err] 76 (0, 0)) from
      (blk_set (blk_set (blk_set (blk_set (blk_set (blk_set HR3.out _) _) _) _) _) _).trans rfl)
    have HX4 := Kp.mk (setCells_kept b [.string R.m, .string R.t, .int .i64 R.mi, .int .i64 R.st, .string R.r, .slice ua R.f.length uc] 9 w3)
    refine hK.out _ _ (⟨blk_cell (i := 1) HR4.out rfl, (fun j v hj => match j, hj with | 0, q => blk_cell (i := 2) HR4.out q | 1, q => blk_cell (i := 3) HR4.out q | 2, q => blk_cell (i := 4) HR4.out q | 3, q => blk_cell (i := 5) HR4.out q | 4, q => blk_cell (i := 6) HR4.out q | n + 5, q => by simp at q), blk_cell (i := 7) HR4.out rfl⟩) (fun hHeld2 => ?_)
    clear hK K
    try simp only [Act.put, List.setIfInBounds_toArray, List.set_cons_zero, List.set_cons_succ]
    generalize w3.setCells b 9 [.string R.m, .string R.t, .int .i64 R.mi, .int .i64 R.st, .string R.r, .slice ua R.f.length uc] = w4 at *
    
    refine wpAnyH_take (i := 21) (oi := ⟨some 54, .nilCheck (.tmp 36), _, _, _, none⟩) (v := ?_) rfl (by kernel_rfl) (by kernel_rfl) (by kernel_rfl) (fun _ _ _ h => h) (Or.inl ⟨by rfl, ?_⟩) (by assumption) ?_
    rotate_left
    · intro w hSw
      try dsimp only at hSw
      go_simp
      try with_reducible rfl
    try simp only [Act.put, List.setIfInBounds_toArray, List.set_cons_zero, List.set_cons_succ]
    refine wpAnyH_take (i := 22) (oi := ⟨some 55, .fieldAddr 76 (.tmp 54) 6, _, _, _, none⟩) (v := ?_) rfl (by kernel_rfl) (by kernel_rfl) (by kernel_rfl) (fun _ _ _ h => h) (Or.inl ⟨by rfl, ?_⟩) (by assumption) ?_
    rotate_left
    · intro w hSw
      try dsimp only at hSw
      go_simp
      try with_reducible rfl
    try simp only [Act.put, List.setIfInBounds_toArray, List.set_cons_zero, List.set_cons_succ]
    refine wpAnyH_ready (rs := [23]) (by kernel_rfl) (by simp) ?_
    refine AllReadyH.cons (o := ⟨none, _, _, _, _, none⟩) rfl (fun K hK => ?_) AllReadyH.nil
    have k15 := blk_cell (i := 15) HR4.out rfl
    have f15 := blk_free (i := 15) HR4.out
    go_simp
    have HR5 := Kp.mk (show (w4.setCell ⟨b, 15, none⟩ (.int .i64 re)).heap[b]? = some (.cells #[.pointer (some ⟨bl, 0, none⟩), .int .i64 kind, .int .i64 l0, .int .i64 l1, .int .i64 l2, .int .i64 l3, .int .i64 l4, .slice ga 0 gc, .bool true, .string R.m, .string R.t, .int .i64 R.mi, .int .i64 R.st, .string R.r, .slice ua R.f.length uc, .int .i64 re] 76 (0, 0)) from (blk_set HR4.out _).trans rfl)
    refine hK.out _ _ (⟨blk_cell (i := 1) HR5.out rfl, (fun j v hj => match j, hj with | 0, q => blk_cell (i := 2) HR5.out q | 1, q => blk_cell (i := 3) HR5.out q | 2, q => blk_cell (i := 4) HR5.out q | 3, q => blk_cell (i := 5) HR5.out q | 4, q => blk_cell (i := 6) HR5.out q | n + 5, q => by simp at q), blk_cell (i := 7) HR5.out rfl⟩) (fun hHeld2 => ?_)
    clear hK K
    
    refine wpAnyH_done (by kernel_rfl) ?_ _
    go_end0
    have KK : ∀ k, k < w.heap.size → k ≠ b → (w4.setCell ⟨b, 15, none⟩ (.int .i64 re)).heap[k]? = w.heap[k]? := fun k hk h1 =>
      (Below.heap_setCell _ _ _ _ h1).trans ((HX4.out.2.2.2.2 k h1).trans ((HB3.out.block k (by rw [HS1.out]; exact hk)).trans (show (w.setCell ⟨b, 8, none⟩ (.bool true)).drew.heap[k]? = w.heap[k]? from Below.heap_setCell _ _ _ _ h1)))
    have nb : bl ≠ b := fun e => by
      have h8 := H2.out.blk
      rw [e, H1.out] at h8
      revert h8
      simp
    have hz3 := HB3.out.size
    refine ⟨rfl, fun k => A k ∨ w.heap.size ≤ k, ⟨⟨tv, .slice ga 0 gc, .slice ua R.f.length uc, HR5.out, ?_, ?_, ?_, fun k hk => .inl (H5.out k hk), fun k hk => .inl (H6.out k hk), ?_⟩, .inl HAB.out.1, .inl HAB.out.2⟩, fun k hk => hk, ?_⟩
    · refine H2.out.kept fun k hk hkk => ?_
      rcases hkk with rfl | hkk
      · exact KK k hk nb
      · exact KK k hk (fun e => own_blk_ne H2.out.own H1.out (by decide) (e ▸ hkk))
    · show World.ownsRow _ _ _ _ _ P.got.length _
      rw [HNN.out]
      exact own_kptH H3.out fun k hk e => KK k hk (fun e2 => own_blk_ne H3.out H1.out (by decide) (e2 ▸ e))
    · exact own_kptH (w' := w4.setCell ⟨b, 15, none⟩ (.int .i64 re)) (own_lowF HU.out (Nat.zero_le _)) fun k hk e => (Below.heap_setCell _ _ _ _ (fun e2 => own_blk_ne HU.out HR3.out (by decide) (e.trans (congrArg some e2)))).trans (HX4.out.2.2.2.2 k (fun e2 => own_blk_ne HU.out HR3.out (by decide) (e.trans (congrArg some e2))))
    · intro k hk
      have := (HU.out.lt k hk).1
      rw [HS1.out] at this
      exact .inr this
    · exact ⟨HX4.out.1.trans HB3.out.os, HX4.out.2.1.trans HB3.out.tape, HX4.out.2.2.1.trans HB3.out.output, by rw [HS1.out] at hz3; simp [World.setCell]; rw [HX4.out.2.2.2.1]; exact hz3, fun k hk hA => KK k hk (fun e => hA (e ▸ HAB.out.1))⟩
end Go.Proofs.YtcbfhlnnfnpkdaaGreatDoor
