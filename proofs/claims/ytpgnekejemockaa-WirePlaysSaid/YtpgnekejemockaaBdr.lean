/- A strings.Builder whose row lies from some block on: what copyCheck and WriteString change. -/
import Derived.Test.YtpgnekejemockaaBld
namespace Go.Proofs.Ytpgnekejemockaa
open Go.RowKit
set_option linter.unusedVariables false
set_option linter.unusedSimpArgs false

/-- The builder in block b holds bs; its row lies from block lo on. -/
def BdR (lo b : Nat) (bs : List Value) (w : World) : Prop :=
  ∃ p v, w.heap[b]? = some (.cells #[p, v] 93 (0, 0)) ∧ (p = .pointer none ∨ p = .pointer (some ⟨b, 0, none⟩)) ∧ w.ownsRowF lo 5 1 v bs.length bs ∧ v.ownBlock ≠ some b
theorem ownF_low {w : World} {B B' : Nat} {e : TypeId} {sz n : Nat} {v : Value} {xs : List Value} (h : w.ownsRowF B e sz v n xs) (hb : B' ≤ B) : w.ownsRowF B' e sz v n xs := by
  refine ⟨h.1, ?_⟩
  rcases h.2 with h2 | ⟨g, cap, cur, fz, h1, h3, rest⟩
  · exact .inl h2
  · exact .inr ⟨g, cap, cur, fz, h1, by omega, rest⟩
theorem ownF_keep {w w' : World} {B : Nat} {e : TypeId} {sz n : Nat} {v : Value} {xs : List Value} (h : w.ownsRowF B e sz v n xs) (hk : ∀ k, B ≤ k → k < w.heap.size → v.ownBlock = some k → w'.heap[k]? = w.heap[k]?) : w'.ownsRowF B e sz v n xs := by
  refine ⟨h.1, ?_⟩
  rcases h.2 with h2 | ⟨g, cap, cur, fz, rfl, h3, h4, rest⟩
  · exact .inl h2
  · exact .inr ⟨g, cap, cur, fz, rfl, h3, (hk g h3 (blk_lt h4) rfl).trans h4, rest⟩
theorem BdR.is {lo b : Nat} {bs : List Value} {w : World} (h : BdR lo b bs w) : IsBd 0 b bs w := by
  obtain ⟨p, v, h1, rfl | rfl, h3, h4⟩ := h
  · exact .inl ⟨Nat.zero_le _, v, h1, ownF_low h3 (Nat.zero_le _), h4⟩
  · exact .inr ⟨Nat.zero_le _, v, h1, ownF_low h3 (Nat.zero_le _), h4⟩
theorem BdR.isB {lo b B : Nat} {bs : List Value} {w : World} (h : BdR lo b bs w) (hb : B ≤ b) (hl : B ≤ lo) : IsBd B b bs w := by
  obtain ⟨p, v, h1, rfl | rfl, h3, h4⟩ := h
  · exact .inl ⟨hb, v, h1, ownF_low h3 hl, h4⟩
  · exact .inr ⟨hb, v, h1, ownF_low h3 hl, h4⟩
/-- What stands apart stays. -/
theorem BdR.keep {lo b : Nat} {bs : List Value} {w w' : World} (h : BdR lo b bs w) (h0 : w'.heap[b]? = w.heap[b]?) (hk : ∀ k, lo ≤ k → k < w.heap.size → w'.heap[k]? = w.heap[k]?) : BdR lo b bs w' := by
  obtain ⟨p, v, h1, h2, h3, h4⟩ := h
  exact ⟨p, v, h0.trans h1, h2, ownF_keep h3 fun k a b _ => hk k a b, h4⟩
theorem BdR.below {lo b : Nat} {bs : List Value} {w w' : World} (h : BdR lo b bs w) (hb : Below w.heap.size w w') : BdR lo b bs w' := by
  have hl : b < w.heap.size := by obtain ⟨p, v, h1, _⟩ := h; exact blk_lt h1
  exact h.keep (hb.block b hl) fun k _ h2 => hb.block k h2
theorem BdR.lt {lo b : Nat} {bs : List Value} {w : World} (h : BdR lo b bs w) : b < w.heap.size := by obtain ⟨p, v, h1, _⟩ := h; exact blk_lt h1
/-- What a write changes: the builder's block, and blocks from lo on. -/
structure BdC (lo b : Nat) (w w' : World) : Prop where
  os : w'.os = w.os
  tape : w'.tape = w.tape
  output : w'.output = w.output
  size : w.heap.size ≤ w'.heap.size
  block : ∀ k, k < w.heap.size → k ≠ b → k < lo → w'.heap[k]? = w.heap[k]?
theorem BdC.of {lo b : Nat} {w w' : World} (h : Below w.heap.size w w') : BdC lo b w w' := ⟨h.os, h.tape, h.output, h.size, fun k hk _ _ => h.block k hk⟩
theorem BdC.trans {lo b : Nat} {u v w : World} (h : BdC lo b u v) (k : BdC lo b v w) : BdC lo b u w :=
  ⟨k.os.trans h.os, k.tape.trans h.tape, k.output.trans h.output, Nat.le_trans h.size k.size, fun i hi hb hl => (k.block i (Nat.lt_of_lt_of_le hi h.size) hb hl).trans (h.block i hi hb hl)⟩
set_option maxHeartbeats 1000000 in
set_option maxRecDepth 100000 in
theorem bcheckR (lo b : Nat) (bs : List Value) (w : World) (h : BdR lo b bs w) :
    Calls Try.prog 79 #[.pointer (some ⟨b, 0, none⟩)] w fun e w' => e = .returned (.tuple #[]) ∧ (∃ v, w'.heap[b]? = some (.cells #[.pointer (some ⟨b, 0, none⟩), v] 93 (0, 0)) ∧ w'.ownsRowF lo 5 1 v bs.length bs ∧ v.ownBlock ≠ some b) ∧ BdC lo b w w' ∧ w'.heap.size = w.heap.size := by
  obtain ⟨j, hj, hjs⟩ := Option.map_eq_some_iff.1 Try.szBd
  obtain ⟨p, v, hbk, hp, hown, hne⟩ := h
  rcases hp with rfl | rfl
  · have h : Lib.BuilderAtF 93 5 0 b (.pointer none) bs w := ⟨Nat.zero_le _, v, hbk, ownF_low hown (Nat.zero_le _), hne⟩
    have HB := Kp.mk hbk
    have HO := Kp.mk hown
    have h0 := h.cell0
    have hsh := h.shape
    have hfz := h.frozen0
    clear hbk hown h
    go_enter Try.func79, Try.ntmps79
    go_wp2
    rw [Lib.run_to_unsafe w ⟨b, 0, none⟩ Try.underlying90 Try.underlying145 hj (by rw [hjs]; decide) hsh (Nat.zero_lt_succ 1)]
    simp only [Result.andThen]
    rw [Oper.upon_value]
    go_wp2
    rw [run_callFunc_extern Try.func111 (by kernel_rfl) (by kernel_rfl) (by kernel_rfl) (e := Extern.AbiNoEscape.same) (by kernel_rfl)]
    rw [Lib.run_noEscape]
    simp only [Result.andThen]
    rw [Oper.upon_value]
    go_wp2
    rw [Lib.run_from_unsafe w ⟨b, 0, none⟩ Try.underlying145 Try.underlying90 hj hsh Try.lieBd]
    simp only [Result.andThen]
    rw [Oper.upon_value]
    go_wp2
    go_end0
    refine ⟨rfl, ⟨v, blk_set HB.out _, ownF_keep HO.out fun k _ hk hv => Below.heap_setCell _ _ _ _ (fun e => hne (by rw [hv, e])), hne⟩, ⟨rfl, rfl, rfl, by simp, fun k hk hb _ => Below.heap_setCell _ _ _ _ hb⟩, by simp⟩
  · have h : Lib.BuilderAtF 93 5 0 b (.pointer (some ⟨b, 0, none⟩)) bs w := ⟨Nat.zero_le _, v, hbk, ownF_low hown (Nat.zero_le _), hne⟩
    have HB := Kp.mk hbk
    have HO := Kp.mk hown
    have h0 := h.cell0
    clear hbk hown h
    go_enter Try.func79, Try.ntmps79
    go_wp2
    rw [Lib.run_neq_ptr_same w _ Try.underlying90 hj]
    go_wp2
    go_end0
    exact ⟨rfl, ⟨v, HB.out, HO.out, hne⟩, ⟨rfl, rfl, rfl, Nat.le_refl _, fun _ _ _ _ => rfl⟩, rfl⟩
set_option maxHeartbeats 2000000 in
set_option maxRecDepth 100000 in
theorem bwriteR (lo b : Nat) (bs : List Value) (s : ByteArray) (w : World) (h : BdR lo b bs w) (hlen : bs.length + s.size ≤ 140737488355328) (hBw : lo ≤ w.heap.size) :
    Calls Try.prog 47 #[.pointer (some ⟨b, 0, none⟩), .string s] w fun e w' => e = .returned (.tuple #[.int .i64 s.size, .nilIface]) ∧ BdR lo b (bs ++ Lib.strCells s) w' ∧ BdC lo b w w' := by
  obtain ⟨i0, hi, hz0, hz1, hz2⟩ := info_parts Try.infoBy
  have HCH := Kp.mk (bcheckR lo b bs w h)
  clear h
  go_enter Try.func47, Try.ntmps47
  go_wp2_with fail
  refine HCH.out.mono ?_
  rintro e w1 ⟨rfl, ⟨v, hbk, hown, hne⟩, hc, hsz⟩
  have HC := Kp.mk hc
  have HSZ := Kp.mk hsz
  have hlo : lo ≤ w1.heap.size := by omega
  have c0 : w1.cell? ⟨b, 0, none⟩ = some (.pointer (some ⟨b, 0, none⟩)) := by rw [Lib.cell_of_heap hbk]; rfl
  have c1 : w1.cell? ⟨b, 1, none⟩ = some v := by rw [Lib.cell_of_heap hbk]; rfl
  clear hc hsz HCH
  go_wp2_with (at_builtin; refine Lib.wpList_append_own_stringF _ rfl _ _ 91 9 rfl lo 5 i0 Try.underlying91 Try.underlying9 hi hz0 hz1 hz2 _ _ _ rfl hown s rfl ?c3 ?c4 ?c5 ?_)
  case c3 => unfold maxLen; omega
  case c4 => omega
  case c5 => exact hlo
  intro v' w2 hown' hgrow _
  have hlt : b < w1.heap.size := blk_lt hbk
  have hb2 : w2.heap[b]? = some (.cells #[.pointer (some ⟨b, 0, none⟩), v] 93 (0, 0)) := by
    rw [hgrow.block b hlt (fun e => hne e.symm)]
    exact hbk
  have d0 : w2.cell? ⟨b, 0, none⟩ = some (.pointer (some ⟨b, 0, none⟩)) := by rw [Lib.cell_of_heap hb2]; rfl
  have d1 : w2.cell? ⟨b, 1, none⟩ = some v := by rw [Lib.cell_of_heap hb2]; rfl
  have f1 : w2.frozen? ⟨b, 1, none⟩ = false := Lib.frozen_of_heap hb2 1
  have hnb : v'.ownBlock ≠ some b := by
    intro e
    rcases hown'.2 with ⟨hv, _⟩ | ⟨g, cap, cur, fz, hv, _, hg, _⟩
    · rw [hv] at e; cases e
    · rw [hv] at e
      injection e with e
      subst e
      rw [hb2] at hg
      injection hg with hg
      injection hg with _ hg
      exact Try.neBd hg
  obtain ⟨ao, n', cap, rfl⟩ : ∃ ao n' cap, v' = .slice ao n' cap := by
    rcases hown'.2 with ⟨hv, _⟩ | ⟨g, cap, cur, fz, hv, _⟩
    · exact ⟨_, _, _, hv⟩
    · exact ⟨_, _, _, hv⟩
  have HO := Kp.mk hown'
  have HG := Kp.mk hgrow
  have HB2 := Kp.mk hb2
  have HLO := Kp.mk (fun k (hk : v.ownBlock = some k) => (hown.lt k hk).1)
  clear hown' hgrow hb2 hown hbk c0 c1
  go_wp2
  go_ret2
  refine ⟨rfl, ⟨_, _, blk_set HB2.out _, .inr rfl, ?_, hnb⟩, ?_⟩
  · have := HO.out
    rw [List.length_append, Lib.strCells_length]
    exact ownF_keep this fun k _ _ hv => Below.heap_setCell _ _ _ _ (fun e => hnb (by rw [hv, e]))
  · refine ⟨HG.out.os.trans HC.out.os, HG.out.tape.trans HC.out.tape, HG.out.output.trans HC.out.output, ?_, fun k hk hb hl => ?_⟩
    · have := HG.out.size; have := HC.out.size; simp; omega
    · refine (Below.heap_setCell _ _ _ _ hb).trans ((HG.out.block k (by have := HC.out.size; omega) (fun e => ?_)).trans (HC.out.block k hk hb hl))
      have := HLO.out k e.symm
      omega
end Go.Proofs.Ytpgnekejemockaa
