/- Lines that are taken out of octets: an octet seen (layer 16). -/
import Derived.Test.YtcbfhlnnfnpkdaaGreatDoorLna
import Derived.Test.YtcbfhlnnfnpkdaaGreatDoorGb
import Derived.Test.YtcbfhlnnfnpkdaaGreatDoorProg
namespace Go.Proofs.YtcbfhlnnfnpkdaaGreatDoor
open Go.RowKit
set_option linter.unusedVariables false
set_option linter.unusedSimpArgs false

/-- What takes lines lies in block b; its text is the slice tv. -/
structure LinAt (b most : Nat) (st : LS) (tv : Value) (w : World) : Prop where
  blk : w.heap[b]? = some (.cells #[.int .i64 most, .int .i64 st.spent, tv, .bool st.cr, .bool st.whole, .int .i64 st.err] 105 (0, 0))
  own : w.ownsRow 0 5 1 tv st.text.length (bv st.text)
  apart : tv.ownBlock ≠ some b
  most_le : most ≤ 65536
  spent_le : st.spent ≤ most
  text_le : st.text.length ≤ st.spent
  err_ge : 0 ≤ st.err ∧ st.err ≤ 100
def LinTo (b most : Nat) (st : LS) (tv : Value) (w w' : World) : Prop := ∃ tv', LinAt b most st tv' w' ∧ Onl b tv.ownBlock w w' ∧ Nxt w tv.ownBlock tv'.ownBlock
theorem LinAt.kept {b most : Nat} {st : LS} {tv : Value} {w w' : World} (h : LinAt b most st tv w) (hb : ∀ k, k < w.heap.size → (k = b ∨ tv.ownBlock = some k) → w'.heap[k]? = w.heap[k]?) : LinAt b most st tv w' := by
  refine ⟨(hb b (blk_lt h.blk) (.inl rfl)).trans h.blk, ⟨h.own.1, ?_⟩, h.apart, h.most_le, h.spent_le, h.text_le, h.err_ge⟩
  rcases h.own.2 with hn | ⟨k, cap, cur, rfl, hb0, hk, rest⟩
  · exact .inl hn
  · exact .inr ⟨k, cap, cur, rfl, hb0, (hb k (Array.getElem?_eq_some_iff.1 hk).1 (.inr rfl)).trans hk, rest⟩
theorem LinAt.below {b most : Nat} {st : LS} {tv : Value} {w w' : World} (h : LinAt b most st tv w) (hb : Below w.heap.size w w') : LinAt b most st tv w' := h.kept fun k hk _ => hb.block k hk
theorem LinTo.trans {b most : Nat} {st st2 : LS} {tv : Value} {w w1 w2 : World} (h : LinTo b most st tv w w1) (k : ∀ tv1, LinAt b most st tv1 w1 → LinTo b most st2 tv1 w1 w2) : LinTo b most st2 tv w w2 := by
  obtain ⟨tv1, h1, h2, h3⟩ := h
  obtain ⟨tv2, k1, k2, k3⟩ := k tv1 h1
  exact ⟨tv2, k1, h2.trans h3 k2, h3.trans h2.size k3⟩
theorem i64b {a b : Int} (h : a = b) : (a == b) = true := by simp [h]
theorem i64n {a b : Int} (h : a ≠ b) : (a == b) = false := by simp [h]

section
variable (b most : Nat) (st : LS) (tv : Value) (c : UInt8) (w : World)
/-- The facts that the walk reads. -/
structure LinF : Prop where
  c0 : w.cell? ⟨b, 0, none⟩ = some (.int .i64 most)
  c1 : w.cell? ⟨b, 1, none⟩ = some (.int .i64 st.spent)
  c2 : w.cell? ⟨b, 2, none⟩ = some tv
  c3 : w.cell? ⟨b, 3, none⟩ = some (.bool st.cr)
  c4 : w.cell? ⟨b, 4, none⟩ = some (.bool st.whole)
  c5 : w.cell? ⟨b, 5, none⟩ = some (.int .i64 st.err)
  f1 : w.frozen? ⟨b, 1, none⟩ = false
  f2 : w.frozen? ⟨b, 2, none⟩ = false
  f3 : w.frozen? ⟨b, 3, none⟩ = false
  f4 : w.frozen? ⟨b, 4, none⟩ = false
  f5 : w.frozen? ⟨b, 5, none⟩ = false
end
theorem LinAt.facts {b most : Nat} {st : LS} {tv : Value} {w : World} (h : LinAt b most st tv w) : LinF b most st tv w :=
  ⟨blk_cell h.blk rfl, blk_cell h.blk rfl, blk_cell h.blk rfl, blk_cell h.blk rfl, blk_cell h.blk rfl, blk_cell h.blk rfl, blk_free h.blk, blk_free h.blk, blk_free h.blk, blk_free h.blk, blk_free h.blk⟩
def SeePost (b most : Nat) (st : LS) (tv : Value) (c : UInt8) (w : World) (e : Ending) (w' : World) : Prop := e = .returned (.bool (seeS most st c).2) ∧ LinTo b most (seeS most st c).1 tv w w'

set_option maxHeartbeats 1000000 in
theorem see_stuck (b most : Nat) (st : LS) (tv : Value) (c : UInt8) (w : World) (h : LinAt b most st tv w) (hs : st.whole = true ∨ st.err ≠ 0) :
    Calls Tryz.prog 100 #[.pointer (some ⟨b, 0, none⟩), .int .u8 (c.toNat : Int)] w (SeePost b most st tv c w) := by
  have HQ := Kp.mk (show seeS most st c = (st, false) by unfold seeS; rw [if_pos hs])
  have H := Kp.mk h
  obtain ⟨spent, text, cr, whole, err⟩ := st
  obtain ⟨c0, c1, c2, c3, c4, c5, f1, f2, f3, f4, f5⟩ := h.facts
  clear h
  simp only at *
  cases whole
  · have he : (err == 0) = false := i64n (by simpa using hs)
    clear hs
    go_enter Tryz.func100, Tryz.ntmps100
    go_wp2_with fail
    go_ret
    unfold SeePost
    rw [HQ.out]
    exact ⟨rfl, tv, H.out, Onl.refl _ _ _, Nxt.refl _ _⟩
  · clear hs
    go_enter Tryz.func100, Tryz.ntmps100
    go_wp2_with fail
    go_ret
    unfold SeePost
    rw [HQ.out]
    exact ⟨rfl, tv, H.out, Onl.refl _ _ _, Nxt.refl _ _⟩
theorem ls_err {most : Nat} {st : LS} {c : UInt8} {e : Int} (hw : st.whole = false) (he : st.err = 0) (h : (st.spent = most ∧ e = 4) ∨ (st.spent ≠ most ∧ st.cr ≠ (c == 10) ∧ e = 8)) : seeS most st c = ({ st with err := e }, false) := by
  rw [seeS_un c hw he]
  rcases h with ⟨h1, rfl⟩ | ⟨h1, h2, rfl⟩
  · rw [if_pos h1]
  · rw [if_neg h1, if_pos h2]
theorem LinAt.setErr {b most : Nat} {st : LS} {tv : Value} {w : World} (h : LinAt b most st tv w) {e : Int} (he : 0 ≤ e ∧ e ≤ 100) : LinAt b most { st with err := e } tv (w.setCell ⟨b, 5, none⟩ (.int .i64 e)) :=
  ⟨(blk_set h.blk _).trans rfl, ownsRow_setCell_other h.own h.apart _, h.apart, h.most_le, h.spent_le, h.text_le, he⟩
theorem LinAt.drewN {b most : Nat} {st : LS} {tv : Value} {w : World} (h : LinAt b most st tv w) (n : Nat) : LinAt b most st tv (w.drewN n) := h.kept fun k _ _ => rfl
theorem c10i (c : UInt8) : ((c.toNat : Int) == 10) = (c == 10) := by
  rw [Bool.eq_iff_iff, beq_iff_eq, beq_iff_eq, ← UInt8.toNat_inj]
  show (c.toNat : Int) = 10 ↔ c.toNat = 10
  omega
theorem c13i (c : UInt8) : ((c.toNat : Int) == 13) = (c == 13) := by
  rw [Bool.eq_iff_iff, beq_iff_eq, beq_iff_eq, ← UInt8.toNat_inj]
  show (c.toNat : Int) = 13 ↔ c.toNat = 13
  omega
set_option maxHeartbeats 1000000 in
theorem see_long (b most : Nat) (st : LS) (tv : Value) (c : UInt8) (w : World) (h : LinAt b most st tv w) (hw : st.whole = false) (he : st.err = 0) (hm : st.spent = most) :
    Calls Tryz.prog 100 #[.pointer (some ⟨b, 0, none⟩), .int .u8 (c.toNat : Int)] w (SeePost b most st tv c w) := by
  have HQ := Kp.mk (ls_err (c := c) (e := 4) hw he (.inl ⟨hm, rfl⟩))
  have H := Kp.mk h
  obtain ⟨spent, text, cr, whole, err⟩ := st
  obtain ⟨c0, c1, c2, c3, c4, c5, f1, f2, f3, f4, f5⟩ := h.facts
  clear h
  simp only at *
  subst hw he hm
  go_enter Tryz.func100, Tryz.ntmps100
  go_wp2_with fail
  go_quiet (fail)
  go_wp2_with fail
  go_ret
  unfold SeePost
  rw [HQ.out]
  refine ⟨rfl, tv, ?_, ((Onl.refl _ _ _).drewN _).setCell _ _, Nxt.refl _ _⟩
  exact (H.out.drewN _).setErr (by omega)
set_option maxHeartbeats 1000000 in
theorem see_line (b most : Nat) (st : LS) (tv : Value) (c : UInt8) (w : World) (h : LinAt b most st tv w) (hw : st.whole = false) (he : st.err = 0) (hm : st.spent ≠ most) (hc : st.cr ≠ (c == 10)) :
    Calls Tryz.prog 100 #[.pointer (some ⟨b, 0, none⟩), .int .u8 (c.toNat : Int)] w (SeePost b most st tv c w) := by
  have HQ := Kp.mk (ls_err (c := c) (e := 8) hw he (.inr ⟨hm, hc, rfl⟩))
  have H := Kp.mk h
  obtain ⟨spent, text, cr, whole, err⟩ := st
  obtain ⟨c0, c1, c2, c3, c4, c5, f1, f2, f3, f4, f5⟩ := h.facts
  clear h
  simp only at *
  subst hw he
  have t1 : ((spent : Int) == (most : Int)) = false := i64n (by omega)
  rw [← c10i] at hc
  clear hm
  cases cr
  · have t2 : ((c.toNat : Int) == 10) = true := by revert hc; cases ((c.toNat : Int) == 10) <;> simp
    clear hc
    go_enter Tryz.func100, Tryz.ntmps100
    go_wp2_with fail
    go_quiet (fail)
    go_wp2_with fail
    go_ret
    unfold SeePost
    rw [HQ.out]
    refine ⟨rfl, tv, ?_, ((Onl.refl _ _ _).drewN _).setCell _ _, Nxt.refl _ _⟩
    exact (H.out.drewN _).setErr (by omega)
  · have t2 : ((c.toNat : Int) == 10) = false := by revert hc; cases ((c.toNat : Int) == 10) <;> simp
    clear hc
    go_enter Tryz.func100, Tryz.ntmps100
    go_wp2_with fail
    go_quiet (fail)
    go_wp2_with fail
    go_ret
    unfold SeePost
    rw [HQ.out]
    refine ⟨rfl, tv, ?_, ((Onl.refl _ _ _).drewN _).setCell _ _, Nxt.refl _ _⟩
    exact (H.out.drewN _).setErr (by omega)
theorem ls_ok {most : Nat} {st : LS} {c : UInt8} (hw : st.whole = false) (he : st.err = 0) (hm : st.spent ≠ most) (hc : st.cr = (c == 10)) :
    seeS most st c = if st.cr = true then ({ st with spent := st.spent + 1, cr := false, whole := true }, true) else if c = 13 then ({ st with spent := st.spent + 1, cr := true }, true) else ({ st with spent := st.spent + 1, text := st.text ++ [c] }, true) := by
  rw [seeS_un c hw he, if_neg hm, if_neg (by simp [hc])]
theorem LinAt.own_drewN {b most : Nat} {st : LS} {tv : Value} {w : World} (h : LinAt b most st tv w) (n : Nat) : (w.drewN n).ownsRow 0 5 1 tv st.text.length (bv st.text) := (h.drewN n).own
theorem i64p (n : Nat) : Value.int .i64 ((n : Int) + 1) = Value.int .i64 ((n + 1 : Nat) : Int) := by congr 1
set_option maxHeartbeats 1000000 in
theorem see_lf (b most : Nat) (st : LS) (tv : Value) (c : UInt8) (w : World) (h : LinAt b most st tv w) (hw : st.whole = false) (he : st.err = 0) (hm : st.spent ≠ most) (hc : st.cr = (c == 10)) (h1 : st.cr = true) :
    Calls Tryz.prog 100 #[.pointer (some ⟨b, 0, none⟩), .int .u8 (c.toNat : Int)] w (SeePost b most st tv c w) := by
  have HQ := Kp.mk (show seeS most st c = ({ st with spent := st.spent + 1, cr := false, whole := true }, true) by rw [ls_ok (c := c) hw he hm hc, if_pos h1])
  have H := Kp.mk h
  have hle := h.spent_le
  have hml := h.most_le
  obtain ⟨spent, text, cr, whole, err⟩ := st
  obtain ⟨c0, c1, c2, c3, c4, c5, f1, f2, f3, f4, f5⟩ := h.facts
  clear h
  simp only at *
  subst hw he h1
  have t1 : ((spent : Int) == (most : Int)) = false := i64n (by omega)
  have t2 : ((c.toNat : Int) == 10) = true := by rw [c10i]; exact hc.symm
  have HM := Kp.mk hm
  clear hm hc
  go_enter Tryz.func100, Tryz.ntmps100
  go_wp2_with fail
  go_quiet (fail)
  go_wp2_with fail
  go_ret
  unfold SeePost
  rw [HQ.out]
  refine ⟨rfl, tv, ?_, ((((Onl.refl _ _ _).drewN _).setCell _ _).setCell _ _).setCell _ _, Nxt.refl _ _⟩
  refine ⟨(blk_set (blk_set (blk_set (blk_drewN H.out.blk _) _) _) _).trans (by rw [i64p]; rfl), ?_, H.out.apart, hml, by have := HM.out; simp; omega, by have := H.out.text_le; simp at this ⊢; omega, by simp⟩
  exact ownsRow_setCell_other (ownsRow_setCell_other (ownsRow_setCell_other (H.out.own_drewN _) H.out.apart _) H.out.apart _) H.out.apart _
set_option maxHeartbeats 1000000 in
theorem see_cr (b most : Nat) (st : LS) (tv : Value) (c : UInt8) (w : World) (h : LinAt b most st tv w) (hw : st.whole = false) (he : st.err = 0) (hm : st.spent ≠ most) (hc : st.cr = (c == 10)) (h1 : st.cr = false) (h13 : c = 13) :
    Calls Tryz.prog 100 #[.pointer (some ⟨b, 0, none⟩), .int .u8 (c.toNat : Int)] w (SeePost b most st tv c w) := by
  have HQ := Kp.mk (show seeS most st c = ({ st with spent := st.spent + 1, cr := true }, true) by rw [ls_ok (c := c) hw he hm hc, if_neg (by simp [h1]), if_pos h13])
  have H := Kp.mk h
  have hle := h.spent_le
  have hml := h.most_le
  obtain ⟨spent, text, cr, whole, err⟩ := st
  obtain ⟨c0, c1, c2, c3, c4, c5, f1, f2, f3, f4, f5⟩ := h.facts
  clear h
  simp only at *
  subst hw he h1
  have t1 : ((spent : Int) == (most : Int)) = false := i64n (by omega)
  have t2 : ((c.toNat : Int) == 10) = false := by rw [c10i]; exact hc.symm
  have t3 : ((c.toNat : Int) == 13) = true := by rw [c13i, h13]; rfl
  have HM := Kp.mk hm
  clear hm hc h13
  go_enter Tryz.func100, Tryz.ntmps100
  go_wp2_with fail
  go_quiet (fail)
  go_wp2_with fail
  go_ret
  unfold SeePost
  rw [HQ.out]
  refine ⟨rfl, tv, ?_, (((Onl.refl _ _ _).drewN _).setCell _ _).setCell _ _, Nxt.refl _ _⟩
  refine ⟨(blk_set (blk_set (blk_drewN H.out.blk _) _) _).trans (by rw [i64p]; rfl), ?_, H.out.apart, hml, by have := HM.out; simp; omega, by have := H.out.text_le; simp at this ⊢; omega, by simp⟩
  exact ownsRow_setCell_other (ownsRow_setCell_other (H.out.own_drewN _) H.out.apart _) H.out.apart _
theorem Tryz.infoBL : (Tryz.prog.info? 5).map (fun i => (i.zero, i.size, i.bytes)) = some (some (.int .u8 0), 1, 1) := by kernel_rfl
set_option maxRecDepth 100000 in
set_option maxHeartbeats 1000000 in
theorem see_txt (b most : Nat) (st : LS) (tv : Value) (c : UInt8) (w : World) (h : LinAt b most st tv w) (hw : st.whole = false) (he : st.err = 0) (hm : st.spent ≠ most) (hc : st.cr = (c == 10)) (h1 : st.cr = false) (h13 : c ≠ 13) :
    Calls Tryz.prog 100 #[.pointer (some ⟨b, 0, none⟩), .int .u8 (c.toNat : Int)] w (SeePost b most st tv c w) := by
  have HQ := Kp.mk (show seeS most st c = ({ st with spent := st.spent + 1, text := st.text ++ [c] }, true) by rw [ls_ok (c := c) hw he hm hc, if_neg (by simp [h1]), if_neg h13])
  have H := Kp.mk h
  have hle := h.spent_le
  have hml := h.most_le
  have htl := h.text_le
  have hblt := blk_lt h.blk
  obtain ⟨spent, text, cr, whole, err⟩ := st
  obtain ⟨c0, c1, c2, c3, c4, c5, f1, f2, f3, f4, f5⟩ := h.facts
  clear h
  simp only at *
  subst hw he h1
  have t1 : ((spent : Int) == (most : Int)) = false := i64n (by omega)
  have t2 : ((c.toNat : Int) == 10) = false := by rw [c10i]; exact hc.symm
  have t3 : ((c.toNat : Int) == 13) = false := by rw [c13i]; simpa using h13
  have HM := Kp.mk hm
  clear hm hc h13
  go_enter Tryz.func100, Tryz.ntmps100
  go_wp2_with fail
  go_quiet (fail)
  have HO := Kp.mk (H.out.own_drewN nq)
  have HBN := Kp.mk (show some b ≠ tv.ownBlock from fun e => H.out.apart e.symm)
  have hlen : (text.length + 1) * 1 ≤ 140737488355328 := by omega
  have hmx : text.length + 1 ≤ maxLen := by unfold maxLen; omega
  have fin : ∀ g' cap' w', w'.ownsRow 0 5 1 (.slice (some ⟨g', 0, none⟩) (text.length + 1) cap') (text.length + 1) (bv text ++ [.int .u8 (c.toNat : Int)]) → ((w.drewN nq).alloc (.cells #[.int .u8 (c.toNat : Int)] 5)).grownBy w' tv.ownBlock → (tv.ownBlock = some g' ∨ g' = (w.drewN nq).heap.size + 1) →
      w'.heap[b]? = some (.cells #[.int .i64 most, .int .i64 spent, tv, .bool false, .bool false, .int .i64 0] 105 (0, 0)) ∧
      LinTo b most ⟨spent + 1, text ++ [c], false, false, 0⟩ tv w ((w'.setCell ⟨b, 2, none⟩ (.slice (some ⟨g', 0, none⟩) (text.length + 1) cap')).setCell ⟨b, 1, none⟩ (.int .i64 ((spent : Int) + 1))) := by
    intro g' cap' w' h1 h2 h3
    have e1 := blk_alloc (o2 := .cells #[.int .u8 (c.toNat : Int)] 5) (blk_drewN H.out.blk nq)
    have e2 := (h2.block b (blk_lt e1) HBN.out).trans e1
    have hgb : g' ≠ b := by
      rintro rfl
      rcases h3 with h3 | h3
      · exact HBN.out h3.symm
      · have := blk_lt (blk_drewN H.out.blk nq); omega
    have hap : (Value.slice (some ⟨g', 0, none⟩) (text.length + 1) cap').ownBlock ≠ some b := fun e => hgb (by simpa [Value.ownBlock] using e)
    refine ⟨e2, .slice (some ⟨g', 0, none⟩) (text.length + 1) cap', ⟨(blk_set (blk_set e2 _) _).trans (by rw [i64p]; rfl), ?_, hap, hml, by have := HM.out; simp; omega, by simp; omega, by simp⟩, ((((Onl.refl _ _ _).drewN nq).alloc _).grown h2).setCell _ _ |>.setCell _ _, ?_⟩
    · have h4 : w'.ownsRow 0 5 1 (.slice (some ⟨g', 0, none⟩) (text.length + 1) cap') (text ++ [c]).length (bv (text ++ [c])) := by rw [bv_snoc, List.length_append]; exact h1
      exact ownsRow_setCell_other (ownsRow_setCell_other h4 hap _) hap _
    · rcases h3 with h3 | h3
      · exact .inl (by rw [h3]; rfl)
      · exact .inr ⟨g', rfl, by rw [h3]; exact Nat.le_succ _⟩
  have FIN := Kp.mk fin
  clear fin
  rcases H.out.own.2 with ⟨hv, -⟩ | ⟨g, cap, cur, hv, -⟩
  all_goals
    subst hv
    go_wp2_with (at_builtin; refine app_any rfl _ _ _ _ rfl Tryz.underlying58 _ _ _ Tryz.infoBL rfl (by omega) 0 _ _ _ rfl HO.out _ rfl (fun u hu => by simp at hu; subst hu; rfl) _ rfl rfl hlen hmx (Nat.zero_le _) ?_; intro g' cap' w' h1 h2 h3; have H1 := Kp.mk (FIN.out g' cap' w' h1 h2 h3); clear h1 h2 h3; have g1 := blk_cell (i := 1) H1.out.1 rfl; have g2 := blk_cell (i := 2) H1.out.1 rfl; have k1 := blk_free (i := 1) H1.out.1; have k2 := blk_free (i := 2) H1.out.1)
    go_ret
    unfold SeePost
    rw [HQ.out]
    exact ⟨rfl, H1.out.2⟩
theorem see_any (b most : Nat) (st : LS) (tv : Value) (c : UInt8) (w : World) (h : LinAt b most st tv w) :
    Calls Tryz.prog 100 #[.pointer (some ⟨b, 0, none⟩), .int .u8 (c.toNat : Int)] w (SeePost b most st tv c w) := by
  by_cases hs : st.whole = true ∨ st.err ≠ 0
  · exact see_stuck b most st tv c w h hs
  · have hw : st.whole = false := by cases hh : st.whole <;> simp_all
    have he : st.err = 0 := by
      by_cases he : st.err = 0
      · exact he
      · exact absurd (.inr he) hs
    by_cases hm : st.spent = most
    · exact see_long b most st tv c w h hw he hm
    · by_cases hc : st.cr = (c == 10)
      · cases h1 : st.cr
        · by_cases h13 : c = 13
          · exact see_cr b most st tv c w h hw he hm hc h1 h13
          · exact see_txt b most st tv c w h hw he hm hc h1 h13
        · exact see_lf b most st tv c w h hw he hm hc h1
      · exact see_line b most st tv c w h hw he hm hc
end Go.Proofs.YtcbfhlnnfnpkdaaGreatDoor
