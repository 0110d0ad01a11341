/- Tally (layer 49): ranked. -/
import Derived.Test.YtocnecbhpofdgaaTli
import Derived.Test.YtocnecbhpofdgaaSrj
import Derived.Deep.DeepCutAuto
namespace Go.Proofs.Ytocnecbhpofdgaa
open Go.RowKit Go.Shelf Go.Lib Go.Sort
set_option linter.unusedVariables false
set_option linter.unusedSimpArgs false
attribute [local go_sem] Oper.semAt_some

theorem Try.infoRk : (Try.prog.info? 57).map (fun i => (i.zero, i.size, i.bytes)) = some (some (.agg #[.string ByteArray.empty, .int .i64 0]), 2, 24) := by kernel_rfl
/-- What stays while rows come. -/
def RkF (h : Nat) (k : Nat) (o : Obj) : Prop := h + 1 ≤ k ∧ (k < h + 4 ∨ ∀ cur, o ≠ .cells cur 57 (0, 0))
/-- The body's relation: the box at h holds the rows that have come. -/
structure RkI (h : Nat) (w : World) (pre : List Rs) (W : World) : Prop where
  bx : ∃ v, W.heap[h]? = some (.cells #[v] 34 (0, 0)) ∧ W.ownsRow (h + 4) 57 2 v pre.length (pre.flatMap encSrw)
  bl : Below h w W
theorem RkI.abd (h : Nat) (w : World) (pre : List Rs) : Abd (h + 2) (h + 4) (RkI h w pre) := by
  rintro A A' ⟨⟨v, h1, h2⟩, h3⟩ hk
  have hlt := blk_lt h1
  exact ⟨⟨v, kpt_at hk h1 (.inl (by omega)), own_kT h2 fun k hl hv => hk.block k hl (.inr (h2.lt k hv).1)⟩, ⟨hk.os.trans h3.os, hk.tape.trans h3.tape, hk.output.trans h3.output, Nat.le_trans h3.size hk.size, fun k hl => (hk.block k (by omega) (.inl (by omega))).trans (h3.block k hl)⟩⟩
theorem own_lowT {W : World} {B B' : Nat} {e : TypeId} {sz n : Nat} {v : Value} {xs : List Value} (h : W.ownsRow B e sz v n xs) (hb : B' ≤ B) : W.ownsRow B' e sz v n xs := by
  refine ⟨h.1, ?_⟩
  rcases h.2 with h2 | ⟨g, cap, cur, rfl, h3, hg, rest⟩
  · exact .inl h2
  · exact .inr ⟨g, cap, cur, rfl, by omega, hg, rest⟩
theorem own_putT {W : World} {B r : Nat} {e : TypeId} {sz n : Nat} {v : Value} {xs : List Value} {o : Obj} (h : W.ownsRow B e sz v n xs) (hr : r < B) : (W.putObj r o).ownsRow B e sz v n xs := by
  refine ⟨h.1, ?_⟩
  rcases h.2 with h2 | ⟨g, cap, cur, rfl, h3, hg, rest⟩
  · exact .inl h2
  · exact .inr ⟨g, cap, cur, rfl, h3, (World.putObj_heap_other (by omega)).trans hg, rest⟩
theorem below_putT {B r : Nat} {w W : World} {o o' : Obj} (h : Below B w W) (hr : B ≤ r) (ho : W.heap[r]? = some o) : Below B w (W.putObj r o') :=
  ⟨h.os, h.tape, h.output, by simp; exact h.size, fun k hk => (World.putObj_heap_other (by omega)).trans (h.block k hk)⟩
theorem own_setT {w : World} {B : Nat} {e : TypeId} {sz n : Nat} {v : Value} {xs : List Value} {b o : Nat} {u : Value} (h : w.ownsRow B e sz v n xs) (hb : v.ownBlock ≠ some b) : (w.setCell ⟨b, o, none⟩ u).ownsRow B e sz v n xs := by
  refine ⟨h.1, ?_⟩
  rcases h.2 with h2 | ⟨g, cap, cur, rfl, h3, hg, rest⟩
  · exact .inl h2
  · exact .inr ⟨g, cap, cur, rfl, h3, blk_set_other hg (fun e => hb (by rw [← e]; rfl)) _, rest⟩
theorem grown_blkT {wr w' : World} {o : Obj} {row : Option Nat} {k : Nat} {ob : Obj} (hg : (wr.alloc o).grownBy w' row) (hk : wr.heap[k]? = some ob) (h : row ≠ some k) : w'.heap[k]? = some ob :=
  (hg.block k (by have := blk_lt hk; simp; omega) (fun e => h e.symm)).trans (blk_alloc hk)
/-- The stable sort of an own row of rows. -/
theorem rk_sort (B n : Nat) (v : Value) (l : List Srw) (w : World) (h : w.ownsRow B 57 2 v n (l.flatMap encSrw)) (hl : l.length = n) (hn : n ≤ 100000) :
    Calls Try.prog 60 #[v, .func (.func 61) #[] #[]] w fun x w' => x = .returned (.tuple #[]) ∧ w'.ownsRow B 57 2 v n ((isrt (ltOf rkC) l).flatMap encSrw) ∧ Below B w w' := by
  subst hl
  obtain ⟨a, c, rfl⟩ := own_lenT h
  rcases Nat.eq_zero_or_pos l.length with h0 | h0
  · have e0 := List.eq_nil_of_length_eq_zero h0
    subst e0
    refine (ss_noneSrw a c w).mono ?_
    rintro e w' ⟨rfl, rfl⟩
    exact ⟨rfl, h, ⟨rfl, rfl, rfl, Nat.le_refl _, fun _ _ => rfl⟩⟩
  · obtain ⟨g, rfl⟩ := own_formT h h0
    have hd : l.toArray.size = l.length := List.size_toArray
    have hg := h.lt g rfl
    have h2 : w.ownsRow B 57 2 (.slice (some ⟨g, 0, none⟩) l.toArray.size c) l.toArray.size (l.toArray.toList.flatMap encSrw) := by rw [hd]; exact h
    refine (ss_sortSrw rkC rkC_swo rkC_cmp g c l.length l.toArray w (sk_rwSrw h2) hd.symm hn).mono ?_
    rintro e w2 ⟨rfl, d', S2, z2, l2⟩
    have hW := sk_ownSrw h2 S2 z2
    rw [hd, l2] at hW
    obtain ⟨k1, k2, k3, k4, k5⟩ := sk_kptSrw S2
    exact ⟨rfl, hW, ⟨k1, k2, k3, k4, fun k hk => k5 k (by omega) (by omega)⟩⟩
set_option maxRecDepth 100000 in
set_option maxHeartbeats 2000000 in
theorem tranked_any (B b N : Nat) (F : ByteArray → Int) (w : World) (h : Tys B b N F w) (hN : N ≤ 1000) :
    Calls Try.prog 35 #[.pointer (some ⟨b, 0, none⟩)] w fun e w' => ∃ v L, e = .returned v ∧ SoL F N L ∧ w'.ownsRow w.heap.size 57 2 v L.length ((isrt (ltOf rkC) L).flatMap encSrw) ∧ Below w.heap.size w w' := by
  have HTY := Kp.mk h
  refine (callsIn_wide (n := 5)).1 ?_
  refine callsIn_of_wp_marks Try.func35 rfl trivial ?_ rfl
  simp only [Try.ntmps35, List.size_toArray, List.length_cons, List.length_nil, Nat.reduceAdd, Nat.reduceSub, Array.replicate_succ, Array.replicate_zero, List.push_toArray, List.append_toArray, List.nil_append, List.cons_append]
  clear h
  gi_wp2_with fail
  refine ⟨trivial, (callsIn_wide.2 (trows_any b _)).mono ?_⟩
  rintro e w1 ⟨rfl, rfl⟩
  gi_wp2_with fail
  try simp only [Nat.add_assoc, Nat.reduceAdd]
  obtain ⟨w0, hw0⟩ : ∃ w0, ((w.alloc (.cells #[.slice none 0 0] 34)).alloc (.cells #[.pointer (some ⟨b, 0, none⟩)] 75)) = w0 := ⟨_, rfl⟩
  have e1 : (w.alloc (.cells #[.slice none 0 0] 34)).heap.size = w.heap.size + 1 := World.size_alloc _ _
  have k1 := heap_alloc_new (w.alloc (.cells #[.slice none 0 0] 34)) (.cells #[.pointer (some ⟨b, 0, none⟩)] 75)
  rw [e1, hw0] at k1
  have S0 : w0.heap.size = w.heap.size + 2 := by rw [← hw0, World.size_alloc, e1]
  have HBL := Kp.mk (show Below w.heap.size w w0 by rw [← hw0]; exact (Below.refl _ _).alloc (Nat.le_refl _) _ |>.alloc (by rw [e1]; omega) _)
  have HI := Kp.mk (show RkI w.heap.size w [] w0 by
    refine ⟨⟨.slice none 0 0, ?_, World.ownsRow_nil _ _ _ _⟩, HBL.out⟩
    rw [← hw0]
    exact blk_alloc (heap_alloc_new w _))
  have HS0 := Kp.mk S0
  have HB1 := Kp.mk k1
  have HTY0 := Kp.mk (HTY.out.below HBL.out)
  rw [hw0]
  clear e1 k1 hw0 S0
  generalize hh : w.heap.size = h at *
  refine rfo_law (n := 5) rfl (by omega) (gf := 73) (lb := #[.pointer (some ⟨h + 1, 0, none⟩)]) rfl trivial (enters_of Try.func73 (by kernel_rfl) rfl)
    (RkF h) (h + 4) (by rw [HS0.out]; omega) (fun j o a b => ⟨by have := HS0.out; omega, .inl b⟩)
    (S := SoL F N) (Sp := fun pre => ∃ L, SoL F N L ∧ pre <+: L) (N := N + 1) (encs := rowE) ?seq (fun x => rfl) (RkI h w) (fun _ _ _ => False)
    (fun pre => by rw [HS0.out]; exact RkI.abd _ _ _) (fun c pre => fun _ _ hf _ => hf) HI.out
    (fun x => { tmps := #[.pointer (some ⟨b, 0, none⟩), undef, .slice none 0 0, .pointer (some ⟨h, 0, none⟩), .string x.1, .int .i64 x.2, .pointer (some ⟨b, 0, none⟩), .func (.func 73) #[] #[.pointer (some ⟨h + 1, 0, none⟩)], .string x.1, .int .i64 x.2, undef, undef, undef, undef, undef, undef, undef, undef, undef], defers := [] }) ?assign ?body ?done ?stop
  case seq =>
    intro W hW hb
    have e := trs_seq 4 (w0.heap.size + 1) (h + 1) B b N F (fun j o => RkF h j o ∧ j ≠ w0.heap.size + 1) W (HTY0.out.below hb) hN ((hb.block _ (blk_lt HB1.out)).trans HB1.out) (fun k cur hk => by
      have := HS0.out
      refine ⟨⟨by omega, .inr fun cur' he => ?_⟩, by omega⟩
      cases he)
    rw [show W.heap.size = h + 4 by have := HS0.out; omega] at e
    exact e
  case assign =>
    rintro l ⟨x1, x2⟩ W K hK
    simp only [rowE]
    gi_wp2
    exact hK
  case body =>
    rintro l pre x W hI hlen hz
    obtain ⟨⟨v, r2, r3⟩, bel⟩ := hI
    obtain ⟨x1, x2⟩ := x
    obtain ⟨av, cv, rfl⟩ := own_lenT r3
    have R2 := Kp.mk r2
    have R3 := Kp.mk r3
    have BEL := Kp.mk bel
    have c2 := blk_cell (i := 0) r2 rfl
    have f2 := blk_free (i := 0) r2
    have hl24 : (pre.length + 1) * 24 ≤ 140737488355328 := by omega
    have hmx : pre.length + 1 ≤ maxLen := by unfold maxLen; omega
    have HR := Kp.mk (fun k (e : (Value.slice av pre.length cv).ownBlock = some k) => (R3.out.lt k e).1)
    have HRT := Kp.mk (show ∀ k, (Value.slice av pre.length cv).ownBlock = some k → ∃ cur, W.heap[k]? = some (.cells cur 57 (0, 0)) from fun k e => by
      rcases R3.out.2 with ⟨h1, _⟩ | ⟨g, cap, cur, h1, _, h3, _⟩
      · rw [h1] at e; cases e
      · rw [h1] at e; cases e; exact ⟨cur, h3⟩)
    clear r2 r3 bel
    gi_wp2_with (gi_at_builtin; refine app_anyIn rfl _ _ _ _ rfl Try.underlying34 _ _ _ Try.infoRk rfl (by omega) (h + 4) _ _ _ rfl R3.out #[.string x1, .int .i64 x2] rfl (fun u hu => by simp at hu; rcases hu with rfl | rfl <;> rfl) _ rfl rfl hl24 hmx hz ?_; intro g' cap' w' h1 h2 h3; have G1 := Kp.mk h1; have G2 := Kp.mk (show (W.alloc (.cells #[.string x1, .int .i64 x2] 57)).grownBy w' (Value.slice av pre.length cv).ownBlock from h2); have Q2 := Kp.mk (grown_blkT h2 R2.out (fun e => by have := HR.out _ e; omega)); have d2 := blk_cell (i := 0) Q2.out rfl; have e2 := blk_free (i := 0) Q2.out; clear h1 h2 h3)
    have hg9 : h + 4 ≤ g' := (G1.out.lt g' rfl).1
    refine ⟨⟨?_, ?_, ?_, ?_, fun k o hk hf => ?_⟩, ⟨⟨_, blk_set Q2.out _, ?_⟩, ?_⟩⟩
    · exact G2.out.os
    · exact G2.out.tape
    · exact G2.out.output
    · have := G2.out.size; simp at this ⊢; omega
    · have hlt := blk_lt hk
      have hne : k ≠ h := by have := hf.1; omega
      refine (Below.heap_setCell _ _ _ _ hne).trans (grown_blkT G2.out hk fun e => ?_)
      obtain ⟨cur, hc⟩ := HRT.out k e
      rw [hk] at hc
      have := HR.out k e
      rcases hf.2 with h9 | h9
      · omega
      · exact h9 cur (by injection hc)
    · rw [List.length_append, List.flatMap_append]
      exact own_setT G1.out (fun e => absurd (show g' = h by simpa [Value.ownBlock] using e) (by omega))
    · exact ((BEL.out.alloc (by omega) _).grown G2.out (by simp; omega) (fun k hk => by have := HR.out _ hk; omega)).setCell (by simp) _
  case done =>
    rintro xs W hxs hI hK
    obtain ⟨⟨v, r2, r3⟩, bel⟩ := hI
    have R2 := Kp.mk r2
    have R3 := Kp.mk r3
    have BEL := Kp.mk bel
    have HK := Kp.mk hK
    have HX := Kp.mk hxs
    have c2 := blk_cell (i := 0) r2 rfl
    have f2 := blk_free (i := 0) r2
    have HSO := Kp.mk (rk_sort (h + 4) xs.length v xs W r3 rfl (by have := hxs.1; omega))
    obtain ⟨av, cv, rfl⟩ := own_lenT r3
    have hs0 := HS0.out
    clear r2 r3 bel hK hxs
    gi_wp2_with fail
    refine ⟨trivial, (callsIn_wide.2 HSO.out).mono ?_⟩
    rintro e w5 ⟨rfl, ho5, hb5⟩
    have HO5 := Kp.mk ho5
    have HB5 := Kp.mk hb5
    have HK5 := Kp.mk ((hb5.block _ (by omega)).trans HK.out)
    have hx5 := (hb5.block h (by omega)).trans R2.out
    have c5 := blk_cell (i := 0) hx5 rfl
    have BL5 := Kp.mk (BEL.out.trans (hb5.mono (by omega)))
    clear ho5 hb5 hx5 c2 f2
    gi_wp2_with fail
    have D0 : w5.heap[h + 2]? = some (.deferred (some [])) := by have := HK5.out; rwa [hs0] at this
    refine ⟨by simp, .inl ⟨_, _, rfl, run_takeDeferred D0, ?_⟩⟩
    refine ⟨.slice av xs.length cv, ?_, ?_⟩
    · simp [results, Try.results35, go_sem, Result.andThen]
    · refine ⟨_, xs, rfl, HX.out, ?_, ?_⟩
      · rw [hh]
        exact own_lowT (own_putT HO5.out (by omega)) (by omega)
      · rw [hh]
        exact below_putT BL5.out (by omega) D0
  case stop =>
    rintro c pre W hp hX hK
    exact hX.elim
end Go.Proofs.Ytocnecbhpofdgaa
