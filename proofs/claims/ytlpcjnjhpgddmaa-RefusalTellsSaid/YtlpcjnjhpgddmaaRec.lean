/- Refusals (layer 33): whole heads, both. -/
import Derived.Test.YtlpcjnjhpgddmaaReb
namespace Go.Proofs.Ytlpcjnjhpgddmaa
open Go.RowKit
set_option linter.unusedVariables false
set_option linter.unusedSimpArgs false

theorem own_kind {w : World} {B : Nat} {e t : TypeId} {sz n k o : Nat} {v u : Value} {xs : List Value} {c : Array Value} (h : w.ownsRow B e sz v n xs) (hk : w.heap[k]? = some (.cells c t (0, 0))) (ht : t ≠ e) : (w.setCell ⟨k, o, none⟩ u).ownsRow B e sz v n xs := by
  refine ⟨h.1, ?_⟩
  rcases h.2 with h2 | ⟨g, cap, cur, rfl, h3, hg, rest⟩
  · exact .inl h2
  · exact .inr ⟨g, cap, cur, rfl, h3, blk_set_other hg (fun e1 => by subst e1; rw [hk] at hg; cases hg; exact ht rfl) _, rest⟩
/-- Two heads' boxes, and a row of fields. -/
structure H3 (a b : Nat) (c1 c2 : Array Value) (v : Value) (n : Nat) (xs : List Value) (w W : World) : Prop where
  b1 : W.heap[a]? = some (.cells c1 42 (0, 0))
  b2 : W.heap[b]? = some (.cells c2 42 (0, 0))
  own : W.ownsRow w.heap.size 34 2 v n xs
  bel : Below w.heap.size w W
  la : w.heap.size ≤ a
  lb : a < b
theorem H3.setA {a b n : Nat} {c1 c2 : Array Value} {v : Value} {xs : List Value} {w W : World} (h : H3 a b c1 c2 v n xs w W) (i : Nat) (x : Value) : H3 a b (c1.setIfInBounds i x) c2 v n xs w (W.setCell ⟨a, i, none⟩ x) :=
  ⟨blk_set h.b1 x, blk_set_other h.b2 (by have := h.lb; omega) x, own_kind h.own h.b1 (by decide), h.bel.setCell (show w.heap.size ≤ a from h.la) x, h.la, h.lb⟩
theorem H3.setB {a b n : Nat} {c1 c2 : Array Value} {v : Value} {xs : List Value} {w W : World} (h : H3 a b c1 c2 v n xs w W) (i : Nat) (x : Value) : H3 a b c1 (c2.setIfInBounds i x) v n xs w (W.setCell ⟨b, i, none⟩ x) :=
  ⟨blk_set_other h.b1 (by have := h.lb; omega) x, blk_set h.b2 x, own_kind h.own h.b2 (by decide), h.bel.setCell (show w.heap.size ≤ b by have := h.la; have := h.lb; omega) x, h.la, h.lb⟩
theorem H3.below {a b n : Nat} {c1 c2 : Array Value} {v : Value} {xs : List Value} {w W W' : World} (h : H3 a b c1 c2 v n xs w W) (hb : Below W.heap.size W W') : H3 a b c1 c2 v n xs w W' :=
  ⟨(hb.block _ (blk_lt h.b1)).trans h.b1, (hb.block _ (blk_lt h.b2)).trans h.b2, ⟨h.own.1, by
    rcases h.own.2 with h1 | ⟨g, cap, cur, h1, h2, h3, rest⟩
    · exact .inl h1
    · exact .inr ⟨g, cap, cur, h1, h2, (hb.block _ (blk_lt h3)).trans h3, rest⟩⟩, h.bel.trans (hb.mono h.bel.size), h.la, h.lb⟩
theorem H3.app {a b n n2 : Nat} {c1 c2 : Array Value} {v v2 : Value} {xs xs2 : List Value} {w W W' : World} {o : Obj} (h : H3 a b c1 c2 v n xs w W) (ho : W'.ownsRow w.heap.size 34 2 v2 n2 xs2) (hg : (W.alloc o).grownBy W' v.ownBlock) : H3 a b c1 c2 v2 n2 xs2 w W' := by
  have key : ∀ (k : Nat) (c : Array Value), W.heap[k]? = some (.cells c 42 (0, 0)) → W'.heap[k]? = some (.cells c 42 (0, 0)) := fun k c hk => by
    refine (hg.block k (by have := blk_lt hk; simp; omega) (fun e1 => ?_)).trans (blk_alloc hk)
    rcases h.own.2 with ⟨h1, -⟩ | ⟨g, cap, cur, h1, h2, h3, -⟩
    · rw [h1] at e1; simp [Value.ownBlock] at e1
    · rw [h1] at e1
      simp [Value.ownBlock] at e1
      subst e1
      rw [hk] at h3
      cases h3
  refine ⟨key _ _ h.b1, key _ _ h.b2, ho, ?_, h.la, h.lb⟩
  exact (h.bel.alloc h.bel.size o).grown hg (by have := h.bel.size; simp; omega) (fun k hk => (h.own.lt k hk).1)
theorem emptyD {s : ByteArray} (h : s.size = 0) : s = ⟨#[]⟩ := by
  rw [ba_size'] at h
  have := List.length_eq_zero_iff.1 h
  cases s with | mk d => simp at this; rw [this]
abbrev Z6 : Array Value := #[.string ⟨#[]⟩, .string ⟨#[]⟩, .int .i64 0, .int .i64 0, .string ⟨#[]⟩, .slice none 0 0]
/-- A refusal's head. -/
def RetH33 (s minor : Int) (L : List Fld) (w : World) (r : Ending) (w' : World) : Prop :=
  ∃ u, r = .returned (hv33 s minor u) ∧ w'.ownsRow w.heap.size 34 2 u L.length (fvH L) ∧ Below w.heap.size w w'
set_option maxRecDepth 100000 in
set_option maxHeartbeats 4000000 in
theorem head33_any (s minor now : Int) (w : World) (h0 : -9223372036854775808 ≤ now) (h1 : now ≤ 9223372036854775807) : Calls Try.prog 28 #[.int .i64 s, .int .i64 minor, .int .i64 now] w (RetH33 s minor (f33 now (prtB now)) w) := by
  have HPR := Kp.mk (fun w => hprint_any now w h0 h1)
  have HSZ := Kp.mk (show (prtB now).size ≤ 1000 by
    unfold prtB
    split
    · rw [ofL_size]; have := pcAcc_len now 18; omega
    · decide)
  have HBR := Kp.mk (bare33_any s minor)
  unfold hv33 at HBR
  have k0 := heap_alloc_new w (.cells #[.string ⟨#[]⟩, .string ⟨#[]⟩, .int .i64 0, .int .i64 0, .string ⟨#[]⟩, .slice none 0 0] 42)
  have HK0 := Kp.mk k0
  have HBA := Kp.mk ((Below.refl w.heap.size w).alloc (Nat.le_refl _) (.cells #[.string ⟨#[]⟩, .string ⟨#[]⟩, .int .i64 0, .int .i64 0, .string ⟨#[]⟩, .slice none 0 0] 42))
  have HLa := Kp.mk (fun (h : (prtB now).size = 0) => show f33 now (prtB now) = [(⟨#[67, 111, 110, 116, 101, 110, 116, 45, 76, 101, 110, 103, 116, 104]⟩, ⟨#[48]⟩), (⟨#[67, 111, 110, 110, 101, 99, 116, 105, 111, 110]⟩, ⟨#[99, 108, 111, 115, 101]⟩)] from if_pos h)
  have HLb := Kp.mk (fun (h : ¬ (prtB now).size = 0) => show f33 now (prtB now) = [(⟨#[68, 97, 116, 101]⟩, prtB now), (⟨#[67, 111, 110, 116, 101, 110, 116, 45, 76, 101, 110, 103, 116, 104]⟩, ⟨#[48]⟩), (⟨#[67, 111, 110, 110, 101, 99, 116, 105, 111, 110]⟩, ⟨#[99, 108, 111, 115, 101]⟩)] from if_neg h)
  generalize f33 now (prtB now) = LL at *
  unfold RetH33 hv33
  generalize rsnS s = R at *
  generalize hmi : mnI minor = mi at *
  generalize prtB now = S at *
  have hss := HSZ.out
  clear k0 h0 h1
  go_enter Try.func28, Try.ntmps28
  go_wp2_with fail
  refine (HBR.out _).mono ?_
  rintro e w1 ⟨rfl, hb1⟩
  have HT := Kp.mk (show H3 w.heap.size w1.heap.size Z6 #[.string ⟨#[]⟩, .string ⟨#[]⟩, .int .i64 mi, .int .i64 s, .string R, .slice none 0 0] (.slice none 0 0) 0 [] w (w1.alloc (.cells #[.string ⟨#[]⟩, .string ⟨#[]⟩, .int .i64 mi, .int .i64 s, .string R, .slice none 0 0] 42)) from
    ⟨blk_alloc ((hb1.block _ (by simp)).trans HK0.out), heap_alloc_new w1 _, World.ownsRow_nil _ _ _ _, (HBA.out.trans (hb1.mono (by simp))).alloc (by have := hb1.size; simp at this; omega) _, Nat.le_refl _, by have := hb1.size; simp at this; omega⟩)
  clear hb1
  go_wp2_with fail
  refine (HPR.out _).mono ?_
  rintro e w2 ⟨rfl, hb2⟩
  replace HT := Kp.mk (HT.out.below hb2)
  clear hb2
  have f0 := blk_free (i := 0) HT.out.b1
  have a0 := blk_cell (i := 0) HT.out.b1 rfl
  have f1 := blk_free (i := 1) HT.out.b1
  have a1 := blk_cell (i := 1) HT.out.b1 rfl
  have f2 := blk_free (i := 2) HT.out.b1
  have a2 := blk_cell (i := 2) HT.out.b1 rfl
  have f3 := blk_free (i := 3) HT.out.b1
  have a3 := blk_cell (i := 3) HT.out.b1 rfl
  have f4 := blk_free (i := 4) HT.out.b1
  have a4 := blk_cell (i := 4) HT.out.b1 rfl
  have f5 := blk_free (i := 5) HT.out.b1
  have a5 := blk_cell (i := 5) HT.out.b1 rfl
  have z0 := blk_cell (i := 0) HT.out.b2 rfl
  have z1 := blk_cell (i := 1) HT.out.b2 rfl
  have z2 := blk_cell (i := 2) HT.out.b2 rfl
  have z3 := blk_cell (i := 3) HT.out.b2 rfl
  have z4 := blk_cell (i := 4) HT.out.b2 rfl
  have z5 := blk_cell (i := 5) HT.out.b2 rfl
  have g5 := blk_free (i := 5) HT.out.b2
  have hnb1 : ¬ w.heap.size = w1.heap.size := by have := HT.out.lb; omega
  have hnb2 : ¬ w1.heap.size = w.heap.size := by have := HT.out.lb; omega
  by_cases hz : S.size = 0
  · obtain rfl := HLa.out hz
    obtain rfl := emptyD hz
    clear HLa HLb
    go_wp2_with (at_builtin; refine app_lit rfl _ _ _ _ rfl Try.underlying26 _ _ _ Try.infoF33 rfl (by omega) w.heap.size (.slice none 0 0) 0 [] rfl HT.out.own #[.string ⟨#[67, 111, 110, 116, 101, 110, 116, 45, 76, 101, 110, 103, 116, 104]⟩, .string ⟨#[48]⟩, .string ⟨#[67, 111, 110, 110, 101, 99, 116, 105, 111, 110]⟩, .string ⟨#[99, 108, 111, 115, 101]⟩] 2 rfl (fun u hu => by simp at hu; rcases hu with rfl | rfl | rfl | rfl <;> rfl) _ rfl rfl (by omega) (by omega) (by unfold maxLen; omega) HT.out.bel.size ?_; intro q1 p1 x1 h1 h2; replace HT := Kp.mk (HT.out.app h1 h2); clear h1 h2 z0 z1 z2 z3 z4 z5 g5 f0 f1 f2 f3 f4 f5 a0 a1 a2 a3 a4 a5; have f0 := blk_free (i := 0) HT.out.b1; have a0 := blk_cell (i := 0) HT.out.b1 rfl; have f1 := blk_free (i := 1) HT.out.b1; have a1 := blk_cell (i := 1) HT.out.b1 rfl; have f2 := blk_free (i := 2) HT.out.b1; have a2 := blk_cell (i := 2) HT.out.b1 rfl; have f3 := blk_free (i := 3) HT.out.b1; have a3 := blk_cell (i := 3) HT.out.b1 rfl; have f4 := blk_free (i := 4) HT.out.b1; have a4 := blk_cell (i := 4) HT.out.b1 rfl; have f5 := blk_free (i := 5) HT.out.b1; have a5 := blk_cell (i := 5) HT.out.b1 rfl; have z0 := blk_cell (i := 0) HT.out.b2 rfl; have z1 := blk_cell (i := 1) HT.out.b2 rfl; have z2 := blk_cell (i := 2) HT.out.b2 rfl; have z3 := blk_cell (i := 3) HT.out.b2 rfl; have z4 := blk_cell (i := 4) HT.out.b2 rfl; have z5 := blk_cell (i := 5) HT.out.b2 rfl; have g5 := blk_free (i := 5) HT.out.b2)
    go_wp2_with fail
    have HF := Kp.mk (((((((HT.out.setB 5 (.slice (some ⟨q1, 0, none⟩) 2 p1)).setA 0 (.string ⟨#[]⟩)).setA 1 (.string ⟨#[]⟩)).setA 2 (.int .i64 mi)).setA 3 (.int .i64 s)).setA 4 (.string R)).setA 5 (.slice (some ⟨q1, 0, none⟩) 2 p1))
    have y0 := blk_cell (i := 0) HF.out.b1 rfl
    have y1 := blk_cell (i := 1) HF.out.b1 rfl
    have y2 := blk_cell (i := 2) HF.out.b1 rfl
    have y3 := blk_cell (i := 3) HF.out.b1 rfl
    have y4 := blk_cell (i := 4) HF.out.b1 rfl
    have y5 := blk_cell (i := 5) HF.out.b1 rfl
    (try simp only [Exit.inBlock, Exit.then])
    exact bodyPost_ret (v := .agg #[.string ⟨#[]⟩, .string ⟨#[]⟩, .int .i64 mi, .int .i64 s, .string R, .slice (some ⟨q1, 0, none⟩) 2 p1]) (by simp [results, Try.results28, go_sem, y0, y1, y2, y3, y4, y5]) rfl ⟨.slice (some ⟨q1, 0, none⟩) 2 p1, rfl, HF.out.own, HF.out.bel⟩
  · obtain ⟨e1, e2⟩ := emp_neD hz
    obtain rfl := HLb.out hz
    clear HLa HLb
    go_wp2_with (first | (at_builtin; refine app_lit rfl _ _ _ _ rfl Try.underlying26 _ _ _ Try.infoF33 rfl (by omega) w.heap.size (.slice none 0 0) 0 [] rfl HT.out.own #[.string ⟨#[68, 97, 116, 101]⟩, .string S] 1 rfl (fun u hu => by simp at hu; rcases hu with rfl | rfl <;> rfl) _ rfl rfl (by omega) (by omega) (by unfold maxLen; omega) HT.out.bel.size ?_; intro q1 p1 x1 h1 h2; replace HT := Kp.mk (HT.out.app h1 h2); clear h1 h2 z0 z1 z2 z3 z4 z5 g5 f0 f1 f2 f3 f4 f5 a0 a1 a2 a3 a4 a5; have f0 := blk_free (i := 0) HT.out.b1; have a0 := blk_cell (i := 0) HT.out.b1 rfl; have f1 := blk_free (i := 1) HT.out.b1; have a1 := blk_cell (i := 1) HT.out.b1 rfl; have f2 := blk_free (i := 2) HT.out.b1; have a2 := blk_cell (i := 2) HT.out.b1 rfl; have f3 := blk_free (i := 3) HT.out.b1; have a3 := blk_cell (i := 3) HT.out.b1 rfl; have f4 := blk_free (i := 4) HT.out.b1; have a4 := blk_cell (i := 4) HT.out.b1 rfl; have f5 := blk_free (i := 5) HT.out.b1; have a5 := blk_cell (i := 5) HT.out.b1 rfl; have z0 := blk_cell (i := 0) HT.out.b2 rfl; have z1 := blk_cell (i := 1) HT.out.b2 rfl; have z2 := blk_cell (i := 2) HT.out.b2 rfl; have z3 := blk_cell (i := 3) HT.out.b2 rfl; have z4 := blk_cell (i := 4) HT.out.b2 rfl; have z5 := blk_cell (i := 5) HT.out.b2 rfl; have g5 := blk_free (i := 5) HT.out.b2; have HT2 := Kp.mk ((show H3 w.heap.size w1.heap.size _ _ (.slice (some ⟨q1, 0, none⟩) 1 p1) 1 [.string ⟨#[68, 97, 116, 101]⟩, .string S] w x1 from HT.out).setB 5 (.slice (some ⟨q1, 0, none⟩) 1 p1)); have zz0 := blk_cell (i := 0) HT2.out.b2 rfl; have zz1 := blk_cell (i := 1) HT2.out.b2 rfl; have zz2 := blk_cell (i := 2) HT2.out.b2 rfl; have zz3 := blk_cell (i := 3) HT2.out.b2 rfl; have zz4 := blk_cell (i := 4) HT2.out.b2 rfl; have zz5 := blk_cell (i := 5) HT2.out.b2 rfl; have gg5 := blk_free (i := 5) HT2.out.b2; have ff0 := blk_free (i := 0) HT2.out.b1; have aa0 := blk_cell (i := 0) HT2.out.b1 rfl; have ff1 := blk_free (i := 1) HT2.out.b1; have aa1 := blk_cell (i := 1) HT2.out.b1 rfl; have ff2 := blk_free (i := 2) HT2.out.b1; have aa2 := blk_cell (i := 2) HT2.out.b1 rfl; have ff3 := blk_free (i := 3) HT2.out.b1; have aa3 := blk_cell (i := 3) HT2.out.b1 rfl; have ff4 := blk_free (i := 4) HT2.out.b1; have aa4 := blk_cell (i := 4) HT2.out.b1 rfl; have ff5 := blk_free (i := 5) HT2.out.b1; have aa5 := blk_cell (i := 5) HT2.out.b1 rfl) | (at_builtin; refine app_lit rfl _ _ _ _ rfl Try.underlying26 _ _ _ Try.infoF33 rfl (by omega) w.heap.size (.slice (some ⟨q1, 0, none⟩) 1 p1) 1 [.string ⟨#[68, 97, 116, 101]⟩, .string S] rfl HT2.out.own #[.string ⟨#[67, 111, 110, 116, 101, 110, 116, 45, 76, 101, 110, 103, 116, 104]⟩, .string ⟨#[48]⟩, .string ⟨#[67, 111, 110, 110, 101, 99, 116, 105, 111, 110]⟩, .string ⟨#[99, 108, 111, 115, 101]⟩] 2 rfl (fun u hu => by simp at hu; rcases hu with rfl | rfl | rfl | rfl <;> rfl) x1.heap.size (by simp [World.setCell]) rfl (by omega) (by omega) (by unfold maxLen; omega) HT2.out.bel.size ?_; intro q2 p2 x2 h1 h2; have HT3 := Kp.mk (HT2.out.app h1 h2); clear h1 h2 z0 z1 z2 z3 z4 z5 g5 f0 f1 f2 f3 f4 f5 a0 a1 a2 a3 a4 a5; have f0 := blk_free (i := 0) HT3.out.b1; have a0 := blk_cell (i := 0) HT3.out.b1 rfl; have f1 := blk_free (i := 1) HT3.out.b1; have a1 := blk_cell (i := 1) HT3.out.b1 rfl; have f2 := blk_free (i := 2) HT3.out.b1; have a2 := blk_cell (i := 2) HT3.out.b1 rfl; have f3 := blk_free (i := 3) HT3.out.b1; have a3 := blk_cell (i := 3) HT3.out.b1 rfl; have f4 := blk_free (i := 4) HT3.out.b1; have a4 := blk_cell (i := 4) HT3.out.b1 rfl; have f5 := blk_free (i := 5) HT3.out.b1; have a5 := blk_cell (i := 5) HT3.out.b1 rfl; have z0 := blk_cell (i := 0) HT3.out.b2 rfl; have z1 := blk_cell (i := 1) HT3.out.b2 rfl; have z2 := blk_cell (i := 2) HT3.out.b2 rfl; have z3 := blk_cell (i := 3) HT3.out.b2 rfl; have z4 := blk_cell (i := 4) HT3.out.b2 rfl; have z5 := blk_cell (i := 5) HT3.out.b2 rfl; have g5 := blk_free (i := 5) HT3.out.b2))
    go_wp2_with fail
    have HF := Kp.mk (((((((HT3.out.setB 5 (.slice (some ⟨q2, 0, none⟩) 3 p2)).setA 0 (.string ⟨#[]⟩)).setA 1 (.string ⟨#[]⟩)).setA 2 (.int .i64 mi)).setA 3 (.int .i64 s)).setA 4 (.string R)).setA 5 (.slice (some ⟨q2, 0, none⟩) 3 p2))
    have y0 := blk_cell (i := 0) HF.out.b1 rfl
    have y1 := blk_cell (i := 1) HF.out.b1 rfl
    have y2 := blk_cell (i := 2) HF.out.b1 rfl
    have y3 := blk_cell (i := 3) HF.out.b1 rfl
    have y4 := blk_cell (i := 4) HF.out.b1 rfl
    have y5 := blk_cell (i := 5) HF.out.b1 rfl
    (try simp only [Exit.inBlock, Exit.then])
    exact bodyPost_ret (v := .agg #[.string ⟨#[]⟩, .string ⟨#[]⟩, .int .i64 mi, .int .i64 s, .string R, .slice (some ⟨q2, 0, none⟩) 3 p2]) (by simp [results, Try.results28, go_sem, y0, y1, y2, y3, y4, y5]) rfl ⟨.slice (some ⟨q2, 0, none⟩) 3 p2, rfl, HF.out.own, HF.out.bel⟩
set_option maxRecDepth 100000 in
set_option maxHeartbeats 4000000 in
theorem rhead33_any (s minor now : Int) (w : World) (h0 : -9223372036854775808 ≤ now) (h1 : now ≤ 9223372036854775807) : Calls Try.prog 29 #[.int .i64 s, .int .i64 minor, .int .i64 now] w (RetH33 s minor (f33 now (prtB now)) w) := by
  have HPR := Kp.mk (fun w => rprint_any now w h0 h1)
  have HSZ := Kp.mk (show (prtB now).size ≤ 1000 by
    unfold prtB
    split
    · rw [ofL_size]; have := pcAcc_len now 18; omega
    · decide)
  have HBR := Kp.mk (rreason_any s)
  have k0 := heap_alloc_new w (.cells #[.string ⟨#[]⟩, .string ⟨#[]⟩, .int .i64 0, .int .i64 0, .string ⟨#[]⟩, .slice none 0 0] 42)
  have HK0 := Kp.mk k0
  have HBA := Kp.mk ((Below.refl w.heap.size w).alloc (Nat.le_refl _) (.cells #[.string ⟨#[]⟩, .string ⟨#[]⟩, .int .i64 0, .int .i64 0, .string ⟨#[]⟩, .slice none 0 0] 42))
  have HLa := Kp.mk (fun (h : (prtB now).size = 0) => show f33 now (prtB now) = [(⟨#[67, 111, 110, 116, 101, 110, 116, 45, 76, 101, 110, 103, 116, 104]⟩, ⟨#[48]⟩), (⟨#[67, 111, 110, 110, 101, 99, 116, 105, 111, 110]⟩, ⟨#[99, 108, 111, 115, 101]⟩)] from if_pos h)
  have HLb := Kp.mk (fun (h : ¬ (prtB now).size = 0) => show f33 now (prtB now) = [(⟨#[68, 97, 116, 101]⟩, prtB now), (⟨#[67, 111, 110, 116, 101, 110, 116, 45, 76, 101, 110, 103, 116, 104]⟩, ⟨#[48]⟩), (⟨#[67, 111, 110, 110, 101, 99, 116, 105, 111, 110]⟩, ⟨#[99, 108, 111, 115, 101]⟩)] from if_neg h)
  generalize f33 now (prtB now) = LL at *
  unfold RetH33 hv33
  generalize rsnS s = R at *
  generalize prtB now = S at *
  have hss := HSZ.out
  clear k0 h0 h1
  by_cases hmn : 0 < minor
  · have hmi : mnI minor = 1 := if_pos hmn
    rw [hmi]
    clear hmi
    go_enter Try.func29, Try.ntmps29
    go_wp2_with fail
    refine (HBR.out _).mono ?_
    rintro e w1 ⟨rfl, hb1⟩
    have HT := Kp.mk (show H3 w.heap.size w1.heap.size Z6 #[.string ⟨#[]⟩, .string ⟨#[]⟩, .int .i64 1, .int .i64 s, .string R, .slice none 0 0] (.slice none 0 0) 0 [] w (w1.alloc (.cells #[.string ⟨#[]⟩, .string ⟨#[]⟩, .int .i64 1, .int .i64 s, .string R, .slice none 0 0] 42)) from
      ⟨blk_alloc ((hb1.block _ (by simp)).trans HK0.out), heap_alloc_new w1 _, World.ownsRow_nil _ _ _ _, (HBA.out.trans (hb1.mono (by simp))).alloc (by have := hb1.size; simp at this; omega) _, Nat.le_refl _, by have := hb1.size; simp at this; omega⟩)
    clear hb1
    go_wp2_with fail
    refine (HPR.out _).mono ?_
    rintro e w2 ⟨rfl, hb2⟩
    replace HT := Kp.mk (HT.out.below hb2)
    clear hb2
    have f0 := blk_free (i := 0) HT.out.b1
    have a0 := blk_cell (i := 0) HT.out.b1 rfl
    have f1 := blk_free (i := 1) HT.out.b1
    have a1 := blk_cell (i := 1) HT.out.b1 rfl
    have f2 := blk_free (i := 2) HT.out.b1
    have a2 := blk_cell (i := 2) HT.out.b1 rfl
    have f3 := blk_free (i := 3) HT.out.b1
    have a3 := blk_cell (i := 3) HT.out.b1 rfl
    have f4 := blk_free (i := 4) HT.out.b1
    have a4 := blk_cell (i := 4) HT.out.b1 rfl
    have f5 := blk_free (i := 5) HT.out.b1
    have a5 := blk_cell (i := 5) HT.out.b1 rfl
    have z0 := blk_cell (i := 0) HT.out.b2 rfl
    have z1 := blk_cell (i := 1) HT.out.b2 rfl
    have z2 := blk_cell (i := 2) HT.out.b2 rfl
    have z3 := blk_cell (i := 3) HT.out.b2 rfl
    have z4 := blk_cell (i := 4) HT.out.b2 rfl
    have z5 := blk_cell (i := 5) HT.out.b2 rfl
    have g5 := blk_free (i := 5) HT.out.b2
    have hnb1 : ¬ w.heap.size = w1.heap.size := by have := HT.out.lb; omega
    have hnb2 : ¬ w1.heap.size = w.heap.size := by have := HT.out.lb; omega
    by_cases hz : S.size = 0
    · obtain rfl := HLa.out hz
      obtain rfl := emptyD hz
      clear HLa HLb
      go_wp2_with (at_builtin; refine app_lit rfl _ _ _ _ rfl Try.underlying26 _ _ _ Try.infoF33 rfl (by omega) w.heap.size (.slice none 0 0) 0 [] rfl HT.out.own #[.string ⟨#[67, 111, 110, 116, 101, 110, 116, 45, 76, 101, 110, 103, 116, 104]⟩, .string ⟨#[48]⟩, .string ⟨#[67, 111, 110, 110, 101, 99, 116, 105, 111, 110]⟩, .string ⟨#[99, 108, 111, 115, 101]⟩] 2 rfl (fun u hu => by simp at hu; rcases hu with rfl | rfl | rfl | rfl <;> rfl) _ rfl rfl (by omega) (by omega) (by unfold maxLen; omega) HT.out.bel.size ?_; intro q1 p1 x1 h1 h2; replace HT := Kp.mk (HT.out.app h1 h2); clear h1 h2 z0 z1 z2 z3 z4 z5 g5 f0 f1 f2 f3 f4 f5 a0 a1 a2 a3 a4 a5; have f0 := blk_free (i := 0) HT.out.b1; have a0 := blk_cell (i := 0) HT.out.b1 rfl; have f1 := blk_free (i := 1) HT.out.b1; have a1 := blk_cell (i := 1) HT.out.b1 rfl; have f2 := blk_free (i := 2) HT.out.b1; have a2 := blk_cell (i := 2) HT.out.b1 rfl; have f3 := blk_free (i := 3) HT.out.b1; have a3 := blk_cell (i := 3) HT.out.b1 rfl; have f4 := blk_free (i := 4) HT.out.b1; have a4 := blk_cell (i := 4) HT.out.b1 rfl; have f5 := blk_free (i := 5) HT.out.b1; have a5 := blk_cell (i := 5) HT.out.b1 rfl; have z0 := blk_cell (i := 0) HT.out.b2 rfl; have z1 := blk_cell (i := 1) HT.out.b2 rfl; have z2 := blk_cell (i := 2) HT.out.b2 rfl; have z3 := blk_cell (i := 3) HT.out.b2 rfl; have z4 := blk_cell (i := 4) HT.out.b2 rfl; have z5 := blk_cell (i := 5) HT.out.b2 rfl; have g5 := blk_free (i := 5) HT.out.b2)
      go_wp2_with fail
      have HF := Kp.mk (((((((HT.out.setB 5 (.slice (some ⟨q1, 0, none⟩) 2 p1)).setA 0 (.string ⟨#[]⟩)).setA 1 (.string ⟨#[]⟩)).setA 2 (.int .i64 1)).setA 3 (.int .i64 s)).setA 4 (.string R)).setA 5 (.slice (some ⟨q1, 0, none⟩) 2 p1))
      have y0 := blk_cell (i := 0) HF.out.b1 rfl
      have y1 := blk_cell (i := 1) HF.out.b1 rfl
      have y2 := blk_cell (i := 2) HF.out.b1 rfl
      have y3 := blk_cell (i := 3) HF.out.b1 rfl
      have y4 := blk_cell (i := 4) HF.out.b1 rfl
      have y5 := blk_cell (i := 5) HF.out.b1 rfl
      (try simp only [Exit.inBlock, Exit.then])
      exact bodyPost_ret (v := .agg #[.string ⟨#[]⟩, .string ⟨#[]⟩, .int .i64 1, .int .i64 s, .string R, .slice (some ⟨q1, 0, none⟩) 2 p1]) (by simp [results, Try.results29, go_sem, y0, y1, y2, y3, y4, y5]) rfl ⟨.slice (some ⟨q1, 0, none⟩) 2 p1, rfl, HF.out.own, HF.out.bel⟩
    · obtain ⟨e1, e2⟩ := emp_neD hz
      obtain rfl := HLb.out hz
      clear HLa HLb
      go_wp2_with (first | (at_builtin; refine app_lit rfl _ _ _ _ rfl Try.underlying26 _ _ _ Try.infoF33 rfl (by omega) w.heap.size (.slice none 0 0) 0 [] rfl HT.out.own #[.string ⟨#[68, 97, 116, 101]⟩, .string S] 1 rfl (fun u hu => by simp at hu; rcases hu with rfl | rfl <;> rfl) _ rfl rfl (by omega) (by omega) (by unfold maxLen; omega) HT.out.bel.size ?_; intro q1 p1 x1 h1 h2; replace HT := Kp.mk (HT.out.app h1 h2); clear h1 h2 z0 z1 z2 z3 z4 z5 g5 f0 f1 f2 f3 f4 f5 a0 a1 a2 a3 a4 a5; have f0 := blk_free (i := 0) HT.out.b1; have a0 := blk_cell (i := 0) HT.out.b1 rfl; have f1 := blk_free (i := 1) HT.out.b1; have a1 := blk_cell (i := 1) HT.out.b1 rfl; have f2 := blk_free (i := 2) HT.out.b1; have a2 := blk_cell (i := 2) HT.out.b1 rfl; have f3 := blk_free (i := 3) HT.out.b1; have a3 := blk_cell (i := 3) HT.out.b1 rfl; have f4 := blk_free (i := 4) HT.out.b1; have a4 := blk_cell (i := 4) HT.out.b1 rfl; have f5 := blk_free (i := 5) HT.out.b1; have a5 := blk_cell (i := 5) HT.out.b1 rfl; have z0 := blk_cell (i := 0) HT.out.b2 rfl; have z1 := blk_cell (i := 1) HT.out.b2 rfl; have z2 := blk_cell (i := 2) HT.out.b2 rfl; have z3 := blk_cell (i := 3) HT.out.b2 rfl; have z4 := blk_cell (i := 4) HT.out.b2 rfl; have z5 := blk_cell (i := 5) HT.out.b2 rfl; have g5 := blk_free (i := 5) HT.out.b2; have HT2 := Kp.mk ((show H3 w.heap.size w1.heap.size _ _ (.slice (some ⟨q1, 0, none⟩) 1 p1) 1 [.string ⟨#[68, 97, 116, 101]⟩, .string S] w x1 from HT.out).setB 5 (.slice (some ⟨q1, 0, none⟩) 1 p1)); have zz0 := blk_cell (i := 0) HT2.out.b2 rfl; have zz1 := blk_cell (i := 1) HT2.out.b2 rfl; have zz2 := blk_cell (i := 2) HT2.out.b2 rfl; have zz3 := blk_cell (i := 3) HT2.out.b2 rfl; have zz4 := blk_cell (i := 4) HT2.out.b2 rfl; have zz5 := blk_cell (i := 5) HT2.out.b2 rfl; have gg5 := blk_free (i := 5) HT2.out.b2; have ff0 := blk_free (i := 0) HT2.out.b1; have aa0 := blk_cell (i := 0) HT2.out.b1 rfl; have ff1 := blk_free (i := 1) HT2.out.b1; have aa1 := blk_cell (i := 1) HT2.out.b1 rfl; have ff2 := blk_free (i := 2) HT2.out.b1; have aa2 := blk_cell (i := 2) HT2.out.b1 rfl; have ff3 := blk_free (i := 3) HT2.out.b1; have aa3 := blk_cell (i := 3) HT2.out.b1 rfl; have ff4 := blk_free (i := 4) HT2.out.b1; have aa4 := blk_cell (i := 4) HT2.out.b1 rfl; have ff5 := blk_free (i := 5) HT2.out.b1; have aa5 := blk_cell (i := 5) HT2.out.b1 rfl) | (at_builtin; refine app_lit rfl _ _ _ _ rfl Try.underlying26 _ _ _ Try.infoF33 rfl (by omega) w.heap.size (.slice (some ⟨q1, 0, none⟩) 1 p1) 1 [.string ⟨#[68, 97, 116, 101]⟩, .string S] rfl HT2.out.own #[.string ⟨#[67, 111, 110, 116, 101, 110, 116, 45, 76, 101, 110, 103, 116, 104]⟩, .string ⟨#[48]⟩, .string ⟨#[67, 111, 110, 110, 101, 99, 116, 105, 111, 110]⟩, .string ⟨#[99, 108, 111, 115, 101]⟩] 2 rfl (fun u hu => by simp at hu; rcases hu with rfl | rfl | rfl | rfl <;> rfl) x1.heap.size (by simp [World.setCell]) rfl (by omega) (by omega) (by unfold maxLen; omega) HT2.out.bel.size ?_; intro q2 p2 x2 h1 h2; have HT3 := Kp.mk (HT2.out.app h1 h2); clear h1 h2 z0 z1 z2 z3 z4 z5 g5 f0 f1 f2 f3 f4 f5 a0 a1 a2 a3 a4 a5; have f0 := blk_free (i := 0) HT3.out.b1; have a0 := blk_cell (i := 0) HT3.out.b1 rfl; have f1 := blk_free (i := 1) HT3.out.b1; have a1 := blk_cell (i := 1) HT3.out.b1 rfl; have f2 := blk_free (i := 2) HT3.out.b1; have a2 := blk_cell (i := 2) HT3.out.b1 rfl; have f3 := blk_free (i := 3) HT3.out.b1; have a3 := blk_cell (i := 3) HT3.out.b1 rfl; have f4 := blk_free (i := 4) HT3.out.b1; have a4 := blk_cell (i := 4) HT3.out.b1 rfl; have f5 := blk_free (i := 5) HT3.out.b1; have a5 := blk_cell (i := 5) HT3.out.b1 rfl; have z0 := blk_cell (i := 0) HT3.out.b2 rfl; have z1 := blk_cell (i := 1) HT3.out.b2 rfl; have z2 := blk_cell (i := 2) HT3.out.b2 rfl; have z3 := blk_cell (i := 3) HT3.out.b2 rfl; have z4 := blk_cell (i := 4) HT3.out.b2 rfl; have z5 := blk_cell (i := 5) HT3.out.b2 rfl; have g5 := blk_free (i := 5) HT3.out.b2))
      go_wp2_with fail
      have HF := Kp.mk (((((((HT3.out.setB 5 (.slice (some ⟨q2, 0, none⟩) 3 p2)).setA 0 (.string ⟨#[]⟩)).setA 1 (.string ⟨#[]⟩)).setA 2 (.int .i64 1)).setA 3 (.int .i64 s)).setA 4 (.string R)).setA 5 (.slice (some ⟨q2, 0, none⟩) 3 p2))
      have y0 := blk_cell (i := 0) HF.out.b1 rfl
      have y1 := blk_cell (i := 1) HF.out.b1 rfl
      have y2 := blk_cell (i := 2) HF.out.b1 rfl
      have y3 := blk_cell (i := 3) HF.out.b1 rfl
      have y4 := blk_cell (i := 4) HF.out.b1 rfl
      have y5 := blk_cell (i := 5) HF.out.b1 rfl
      (try simp only [Exit.inBlock, Exit.then])
      exact bodyPost_ret (v := .agg #[.string ⟨#[]⟩, .string ⟨#[]⟩, .int .i64 1, .int .i64 s, .string R, .slice (some ⟨q2, 0, none⟩) 3 p2]) (by simp [results, Try.results29, go_sem, y0, y1, y2, y3, y4, y5]) rfl ⟨.slice (some ⟨q2, 0, none⟩) 3 p2, rfl, HF.out.own, HF.out.bel⟩
  · have hmi : mnI minor = 0 := if_neg hmn
    rw [hmi]
    clear hmi
    go_enter Try.func29, Try.ntmps29
    go_wp2_with fail
    refine (HBR.out _).mono ?_
    rintro e w1 ⟨rfl, hb1⟩
    have HT := Kp.mk (show H3 w.heap.size w1.heap.size Z6 #[.string ⟨#[]⟩, .string ⟨#[]⟩, .int .i64 0, .int .i64 s, .string R, .slice none 0 0] (.slice none 0 0) 0 [] w (w1.alloc (.cells #[.string ⟨#[]⟩, .string ⟨#[]⟩, .int .i64 0, .int .i64 s, .string R, .slice none 0 0] 42)) from
      ⟨blk_alloc ((hb1.block _ (by simp)).trans HK0.out), heap_alloc_new w1 _, World.ownsRow_nil _ _ _ _, (HBA.out.trans (hb1.mono (by simp))).alloc (by have := hb1.size; simp at this; omega) _, Nat.le_refl _, by have := hb1.size; simp at this; omega⟩)
    clear hb1
    go_wp2_with fail
    refine (HPR.out _).mono ?_
    rintro e w2 ⟨rfl, hb2⟩
    replace HT := Kp.mk (HT.out.below hb2)
    clear hb2
    have f0 := blk_free (i := 0) HT.out.b1
    have a0 := blk_cell (i := 0) HT.out.b1 rfl
    have f1 := blk_free (i := 1) HT.out.b1
    have a1 := blk_cell (i := 1) HT.out.b1 rfl
    have f2 := blk_free (i := 2) HT.out.b1
    have a2 := blk_cell (i := 2) HT.out.b1 rfl
    have f3 := blk_free (i := 3) HT.out.b1
    have a3 := blk_cell (i := 3) HT.out.b1 rfl
    have f4 := blk_free (i := 4) HT.out.b1
    have a4 := blk_cell (i := 4) HT.out.b1 rfl
    have f5 := blk_free (i := 5) HT.out.b1
    have a5 := blk_cell (i := 5) HT.out.b1 rfl
    have z0 := blk_cell (i := 0) HT.out.b2 rfl
    have z1 := blk_cell (i := 1) HT.out.b2 rfl
    have z2 := blk_cell (i := 2) HT.out.b2 rfl
    have z3 := blk_cell (i := 3) HT.out.b2 rfl
    have z4 := blk_cell (i := 4) HT.out.b2 rfl
    have z5 := blk_cell (i := 5) HT.out.b2 rfl
    have g5 := blk_free (i := 5) HT.out.b2
    have hnb1 : ¬ w.heap.size = w1.heap.size := by have := HT.out.lb; omega
    have hnb2 : ¬ w1.heap.size = w.heap.size := by have := HT.out.lb; omega
    by_cases hz : S.size = 0
    · obtain rfl := HLa.out hz
      obtain rfl := emptyD hz
      clear HLa HLb
      go_wp2_with (at_builtin; refine app_lit rfl _ _ _ _ rfl Try.underlying26 _ _ _ Try.infoF33 rfl (by omega) w.heap.size (.slice none 0 0) 0 [] rfl HT.out.own #[.string ⟨#[67, 111, 110, 116, 101, 110, 116, 45, 76, 101, 110, 103, 116, 104]⟩, .string ⟨#[48]⟩, .string ⟨#[67, 111, 110, 110, 101, 99, 116, 105, 111, 110]⟩, .string ⟨#[99, 108, 111, 115, 101]⟩] 2 rfl (fun u hu => by simp at hu; rcases hu with rfl | rfl | rfl | rfl <;> rfl) _ rfl rfl (by omega) (by omega) (by unfold maxLen; omega) HT.out.bel.size ?_; intro q1 p1 x1 h1 h2; replace HT := Kp.mk (HT.out.app h1 h2); clear h1 h2 z0 z1 z2 z3 z4 z5 g5 f0 f1 f2 f3 f4 f5 a0 a1 a2 a3 a4 a5; have f0 := blk_free (i := 0) HT.out.b1; have a0 := blk_cell (i := 0) HT.out.b1 rfl; have f1 := blk_free (i := 1) HT.out.b1; have a1 := blk_cell (i := 1) HT.out.b1 rfl; have f2 := blk_free (i := 2) HT.out.b1; have a2 := blk_cell (i := 2) HT.out.b1 rfl; have f3 := blk_free (i := 3) HT.out.b1; have a3 := blk_cell (i := 3) HT.out.b1 rfl; have f4 := blk_free (i := 4) HT.out.b1; have a4 := blk_cell (i := 4) HT.out.b1 rfl; have f5 := blk_free (i := 5) HT.out.b1; have a5 := blk_cell (i := 5) HT.out.b1 rfl; have z0 := blk_cell (i := 0) HT.out.b2 rfl; have z1 := blk_cell (i := 1) HT.out.b2 rfl; have z2 := blk_cell (i := 2) HT.out.b2 rfl; have z3 := blk_cell (i := 3) HT.out.b2 rfl; have z4 := blk_cell (i := 4) HT.out.b2 rfl; have z5 := blk_cell (i := 5) HT.out.b2 rfl; have g5 := blk_free (i := 5) HT.out.b2)
      go_wp2_with fail
      have HF := Kp.mk (((((((HT.out.setB 5 (.slice (some ⟨q1, 0, none⟩) 2 p1)).setA 0 (.string ⟨#[]⟩)).setA 1 (.string ⟨#[]⟩)).setA 2 (.int .i64 0)).setA 3 (.int .i64 s)).setA 4 (.string R)).setA 5 (.slice (some ⟨q1, 0, none⟩) 2 p1))
      have y0 := blk_cell (i := 0) HF.out.b1 rfl
      have y1 := blk_cell (i := 1) HF.out.b1 rfl
      have y2 := blk_cell (i := 2) HF.out.b1 rfl
      have y3 := blk_cell (i := 3) HF.out.b1 rfl
      have y4 := blk_cell (i := 4) HF.out.b1 rfl
      have y5 := blk_cell (i := 5) HF.out.b1 rfl
      (try simp only [Exit.inBlock, Exit.then])
      exact bodyPost_ret (v := .agg #[.string ⟨#[]⟩, .string ⟨#[]⟩, .int .i64 0, .int .i64 s, .string R, .slice (some ⟨q1, 0, none⟩) 2 p1]) (by simp [results, Try.results29, go_sem, y0, y1, y2, y3, y4, y5]) rfl ⟨.slice (some ⟨q1, 0, none⟩) 2 p1, rfl, HF.out.own, HF.out.bel⟩
    · obtain ⟨e1, e2⟩ := emp_neD hz
      obtain rfl := HLb.out hz
      clear HLa HLb
      go_wp2_with (first | (at_builtin; refine app_lit rfl _ _ _ _ rfl Try.underlying26 _ _ _ Try.infoF33 rfl (by omega) w.heap.size (.slice none 0 0) 0 [] rfl HT.out.own #[.string ⟨#[68, 97, 116, 101]⟩, .string S] 1 rfl (fun u hu => by simp at hu; rcases hu with rfl | rfl <;> rfl) _ rfl rfl (by omega) (by omega) (by unfold maxLen; omega) HT.out.bel.size ?_; intro q1 p1 x1 h1 h2; replace HT := Kp.mk (HT.out.app h1 h2); clear h1 h2 z0 z1 z2 z3 z4 z5 g5 f0 f1 f2 f3 f4 f5 a0 a1 a2 a3 a4 a5; have f0 := blk_free (i := 0) HT.out.b1; have a0 := blk_cell (i := 0) HT.out.b1 rfl; have f1 := blk_free (i := 1) HT.out.b1; have a1 := blk_cell (i := 1) HT.out.b1 rfl; have f2 := blk_free (i := 2) HT.out.b1; have a2 := blk_cell (i := 2) HT.out.b1 rfl; have f3 := blk_free (i := 3) HT.out.b1; have a3 := blk_cell (i := 3) HT.out.b1 rfl; have f4 := blk_free (i := 4) HT.out.b1; have a4 := blk_cell (i := 4) HT.out.b1 rfl; have f5 := blk_free (i := 5) HT.out.b1; have a5 := blk_cell (i := 5) HT.out.b1 rfl; have z0 := blk_cell (i := 0) HT.out.b2 rfl; have z1 := blk_cell (i := 1) HT.out.b2 rfl; have z2 := blk_cell (i := 2) HT.out.b2 rfl; have z3 := blk_cell (i := 3) HT.out.b2 rfl; have z4 := blk_cell (i := 4) HT.out.b2 rfl; have z5 := blk_cell (i := 5) HT.out.b2 rfl; have g5 := blk_free (i := 5) HT.out.b2; have HT2 := Kp.mk ((show H3 w.heap.size w1.heap.size _ _ (.slice (some ⟨q1, 0, none⟩) 1 p1) 1 [.string ⟨#[68, 97, 116, 101]⟩, .string S] w x1 from HT.out).setB 5 (.slice (some ⟨q1, 0, none⟩) 1 p1)); have zz0 := blk_cell (i := 0) HT2.out.b2 rfl; have zz1 := blk_cell (i := 1) HT2.out.b2 rfl; have zz2 := blk_cell (i := 2) HT2.out.b2 rfl; have zz3 := blk_cell (i := 3) HT2.out.b2 rfl; have zz4 := blk_cell (i := 4) HT2.out.b2 rfl; have zz5 := blk_cell (i := 5) HT2.out.b2 rfl; have gg5 := blk_free (i := 5) HT2.out.b2; have ff0 := blk_free (i := 0) HT2.out.b1; have aa0 := blk_cell (i := 0) HT2.out.b1 rfl; have ff1 := blk_free (i := 1) HT2.out.b1; have aa1 := blk_cell (i := 1) HT2.out.b1 rfl; have ff2 := blk_free (i := 2) HT2.out.b1; have aa2 := blk_cell (i := 2) HT2.out.b1 rfl; have ff3 := blk_free (i := 3) HT2.out.b1; have aa3 := blk_cell (i := 3) HT2.out.b1 rfl; have ff4 := blk_free (i := 4) HT2.out.b1; have aa4 := blk_cell (i := 4) HT2.out.b1 rfl; have ff5 := blk_free (i := 5) HT2.out.b1; have aa5 := blk_cell (i := 5) HT2.out.b1 rfl) | (at_builtin; refine app_lit rfl _ _ _ _ rfl Try.underlying26 _ _ _ Try.infoF33 rfl (by omega) w.heap.size (.slice (some ⟨q1, 0, none⟩) 1 p1) 1 [.string ⟨#[68, 97, 116, 101]⟩, .string S] rfl HT2.out.own #[.string ⟨#[67, 111, 110, 116, 101, 110, 116, 45, 76, 101, 110, 103, 116, 104]⟩, .string ⟨#[48]⟩, .string ⟨#[67, 111, 110, 110, 101, 99, 116, 105, 111, 110]⟩, .string ⟨#[99, 108, 111, 115, 101]⟩] 2 rfl (fun u hu => by simp at hu; rcases hu with rfl | rfl | rfl | rfl <;> rfl) x1.heap.size (by simp [World.setCell]) rfl (by omega) (by omega) (by unfold maxLen; omega) HT2.out.bel.size ?_; intro q2 p2 x2 h1 h2; have HT3 := Kp.mk (HT2.out.app h1 h2); clear h1 h2 z0 z1 z2 z3 z4 z5 g5 f0 f1 f2 f3 f4 f5 a0 a1 a2 a3 a4 a5; have f0 := blk_free (i := 0) HT3.out.b1; have a0 := blk_cell (i := 0) HT3.out.b1 rfl; have f1 := blk_free (i := 1) HT3.out.b1; have a1 := blk_cell (i := 1) HT3.out.b1 rfl; have f2 := blk_free (i := 2) HT3.out.b1; have a2 := blk_cell (i := 2) HT3.out.b1 rfl; have f3 := blk_free (i := 3) HT3.out.b1; have a3 := blk_cell (i := 3) HT3.out.b1 rfl; have f4 := blk_free (i := 4) HT3.out.b1; have a4 := blk_cell (i := 4) HT3.out.b1 rfl; have f5 := blk_free (i := 5) HT3.out.b1; have a5 := blk_cell (i := 5) HT3.out.b1 rfl; have z0 := blk_cell (i := 0) HT3.out.b2 rfl; have z1 := blk_cell (i := 1) HT3.out.b2 rfl; have z2 := blk_cell (i := 2) HT3.out.b2 rfl; have z3 := blk_cell (i := 3) HT3.out.b2 rfl; have z4 := blk_cell (i := 4) HT3.out.b2 rfl; have z5 := blk_cell (i := 5) HT3.out.b2 rfl; have g5 := blk_free (i := 5) HT3.out.b2))
      go_wp2_with fail
      have HF := Kp.mk (((((((HT3.out.setB 5 (.slice (some ⟨q2, 0, none⟩) 3 p2)).setA 0 (.string ⟨#[]⟩)).setA 1 (.string ⟨#[]⟩)).setA 2 (.int .i64 0)).setA 3 (.int .i64 s)).setA 4 (.string R)).setA 5 (.slice (some ⟨q2, 0, none⟩) 3 p2))
      have y0 := blk_cell (i := 0) HF.out.b1 rfl
      have y1 := blk_cell (i := 1) HF.out.b1 rfl
      have y2 := blk_cell (i := 2) HF.out.b1 rfl
      have y3 := blk_cell (i := 3) HF.out.b1 rfl
      have y4 := blk_cell (i := 4) HF.out.b1 rfl
      have y5 := blk_cell (i := 5) HF.out.b1 rfl
      (try simp only [Exit.inBlock, Exit.then])
      exact bodyPost_ret (v := .agg #[.string ⟨#[]⟩, .string ⟨#[]⟩, .int .i64 0, .int .i64 s, .string R, .slice (some ⟨q2, 0, none⟩) 3 p2]) (by simp [results, Try.results29, go_sem, y0, y1, y2, y3, y4, y5]) rfl ⟨.slice (some ⟨q2, 0, none⟩) 3 p2, rfl, HF.out.own, HF.out.bel⟩
set_option maxRecDepth 100000 in
set_option maxHeartbeats 2000000 in
theorem rcont33_any (minor : Int) (w : World) : Calls Try.prog 31 #[.int .i64 minor] w fun r w' => r = .returned (hv33 100 minor (.slice none 0 0)) ∧ Below w.heap.size w w' := by
  have HR := Kp.mk (show rsnS 100 = ⟨#[67, 111, 110, 116, 105, 110, 117, 101]⟩ from rfl)
  unfold hv33
  rw [HR.out]
  by_cases hmn : 0 < minor
  · have hmi : mnI minor = 1 := if_pos hmn
    rw [hmi]
    have k0 := blk_alloc (o2 := .cells #[.string ⟨#[]⟩, .string ⟨#[]⟩, .int .i64 1, .int .i64 100, .string ⟨#[67, 111, 110, 116, 105, 110, 117, 101]⟩, .slice none 0 0] 42) (heap_alloc_new w (.cells #[.string ⟨#[]⟩, .string ⟨#[]⟩, .int .i64 1, .int .i64 100, .string ⟨#[67, 111, 110, 116, 105, 110, 117, 101]⟩, .slice none 0 0] 42))
    have y0 := blk_cell (i := 0) k0 rfl
    have y1 := blk_cell (i := 1) k0 rfl
    have y2 := blk_cell (i := 2) k0 rfl
    have y3 := blk_cell (i := 3) k0 rfl
    have y4 := blk_cell (i := 4) k0 rfl
    have y5 := blk_cell (i := 5) k0 rfl
    go_enter Try.func31, Try.ntmps31
    go_wp2_with fail
    exact bodyPost_ret (v := .agg #[.string ⟨#[]⟩, .string ⟨#[]⟩, .int .i64 1, .int .i64 100, .string ⟨#[67, 111, 110, 116, 105, 110, 117, 101]⟩, .slice none 0 0]) (by simp [results, Try.results31, go_sem, y0, y1, y2, y3, y4, y5]) rfl ⟨rfl, ((Below.refl _ _).alloc (Nat.le_refl _) _).alloc (by simp) _⟩
  · have hmi : mnI minor = 0 := if_neg hmn
    rw [hmi]
    have k0 := blk_alloc (o2 := .cells #[.string ⟨#[]⟩, .string ⟨#[]⟩, .int .i64 0, .int .i64 100, .string ⟨#[67, 111, 110, 116, 105, 110, 117, 101]⟩, .slice none 0 0] 42) (heap_alloc_new w (.cells #[.string ⟨#[]⟩, .string ⟨#[]⟩, .int .i64 0, .int .i64 100, .string ⟨#[67, 111, 110, 116, 105, 110, 117, 101]⟩, .slice none 0 0] 42))
    have y0 := blk_cell (i := 0) k0 rfl
    have y1 := blk_cell (i := 1) k0 rfl
    have y2 := blk_cell (i := 2) k0 rfl
    have y3 := blk_cell (i := 3) k0 rfl
    have y4 := blk_cell (i := 4) k0 rfl
    have y5 := blk_cell (i := 5) k0 rfl
    go_enter Try.func31, Try.ntmps31
    go_wp2_with fail
    exact bodyPost_ret (v := .agg #[.string ⟨#[]⟩, .string ⟨#[]⟩, .int .i64 0, .int .i64 100, .string ⟨#[67, 111, 110, 116, 105, 110, 117, 101]⟩, .slice none 0 0]) (by simp [results, Try.results31, go_sem, y0, y1, y2, y3, y4, y5]) rfl ⟨rfl, ((Below.refl _ _).alloc (Nat.le_refl _) _).alloc (by simp) _⟩
end Go.Proofs.Ytlpcjnjhpgddmaa
