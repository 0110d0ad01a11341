/- Tally (layer 49): Sum; a nil tally; what TallyCounts asks of rows. -/
import Derived.Test.YtocnecbhpofdgaaTlj
import Derived.Test.YtocnecbhpofdgaaTlk
namespace Go.Proofs.Ytocnecbhpofdgaa
open Go.RowKit Go.Sort Go.Shelf
set_option linter.unusedVariables false
set_option linter.unusedSimpArgs false
attribute [local go_sem] Oper.semAt_some

theorem SoLi.rise {F : Int → Int} {n : Nat} {L : List Ri} (h : SoLi F n L) : L.Pairwise (fun p q => p.1 < q.1) := by
  obtain ⟨-, h2, h3, -⟩ := h
  rw [List.Nodup, List.pairwise_map] at h2
  refine (h2.and h3).imp fun {p q} hpq => ?_
  obtain ⟨e, hl⟩ := hpq
  have hl2 : decide (q.1 < p.1) = false := by
    rw [← cmI_lt]
    exact hl
  have := of_decide_eq_false hl2
  omega
theorem pw_uniqI {α : Type} {R : α → α → Prop} (ha : ∀ p q, R p q → ¬ R q p) : ∀ {l l' : List α}, l.Pairwise R → l'.Pairwise R → (∀ x, x ∈ l ↔ x ∈ l') → l = l'
  | [], [], _, _, _ => rfl
  | [], b :: l', _, _, h => absurd ((h b).2 (by simp)) (by simp)
  | a :: l, [], _, _, h => absurd ((h a).1 (by simp)) (by simp)
  | a :: l, b :: l', h1, h2, h => by
    rw [List.pairwise_cons] at h1 h2
    obtain ⟨a1, a2⟩ := h1
    obtain ⟨b1, b2⟩ := h2
    have e : a = b := by
      have m1 := (h a).1 (by simp)
      have m2 := (h b).2 (by simp)
      rcases List.mem_cons.1 m1 with m1 | m1
      · exact m1
      · rcases List.mem_cons.1 m2 with m2 | m2
        · exact m2.symm
        · exact absurd (b1 a m1) (ha _ _ (a1 b m2))
    subst e
    have := pw_uniqI ha a2 b2 fun z => by
      have hz := h z
      have irr : ¬ R a a := fun r => ha a a r r
      constructor
      · intro hm
        rcases List.mem_cons.1 (hz.1 (List.mem_cons_of_mem _ hm)) with e | h'
        · subst e; exact absurd (a1 z hm) irr
        · exact h'
      · intro hm
        rcases List.mem_cons.1 (hz.2 (List.mem_cons_of_mem _ hm)) with e | h'
        · subst e; exact absurd (b1 z hm) irr
        · exact h'
    rw [this]
theorem SoLi.mem {F : Int → Int} {n : Nat} {L : List Ri} (h : SoLi F n L) (p : Ri) : p ∈ L ↔ (Lit.int .i64 p.1).wf = true ∧ F p.1 = p.2 ∧ 0 < p.2 := by
  obtain ⟨-, -, -, h4, h5⟩ := h
  refine ⟨h4 p, fun ⟨g1, g2, g3⟩ => ?_⟩
  obtain ⟨q, hq, e⟩ := List.mem_map.1 (h5 p.1 g1 (by rw [g2]; exact g3))
  obtain ⟨k1, k2, k3⟩ := h4 q hq
  have : q = p := by
    obtain ⟨x, n⟩ := p
    obtain ⟨y, m⟩ := q
    dsimp only at *
    subst e
    rw [← g2, ← k2]
  rw [← this]
  exact hq
theorem SoLi.uniq {F : Int → Int} {n n' : Nat} {L L' : List Ri} (h : SoLi F n L) (h' : SoLi F n' L') : L = L' :=
  pw_uniqI (R := fun p q : Ri => p.1 < q.1) (fun p q h => by omega) h.rise h'.rise fun p => by rw [h.mem, h'.mem]
/-- What rows come to. -/
def sumI (L : List Ri) : Int := (L.map (·.2)).sum
theorem sumI_snoc (L : List Ri) (p : Ri) : sumI (L ++ [p]) = sumI L + p.2 := by simp [sumI]
theorem sumI_in : ∀ {L : List Ri}, (∀ p ∈ L, 0 ≤ p.2 ∧ p.2 ≤ 1099511627776) → 0 ≤ sumI L ∧ sumI L ≤ 1099511627776 * (L.length : Int)
  | [], _ => by simp [sumI]
  | p :: L, h => by
    have h1 := sumI_in (L := L) fun q hq => h q (List.mem_cons_of_mem _ hq)
    have h2 := h p (by simp)
    have e : sumI (p :: L) = p.2 + sumI L := by simp [sumI]
    rw [e]
    simp only [List.length_cons]
    omega
/-- The same, as the loop counts it. -/
def sumV (L : List Ri) : Int := L.foldl (fun a p => wrap64 (a + p.2)) 0
theorem sumV_snoc (L : List Ri) (p : Ri) : sumV (L ++ [p]) = wrap64 (sumV L + p.2) := by simp [sumV, List.foldl_append]
theorem sumV_eq : ∀ (n : Nat) (L : List Ri), L.length = n → n ≤ 1000 → (∀ p ∈ L, 0 ≤ p.2 ∧ p.2 ≤ 1099511627776) → sumV L = sumI L := by
  intro n L hn hl h
  have key : ∀ k, k ≤ L.length → sumV (L.take k) = sumI (L.take k) := by
    intro k
    induction k with
    | zero => intro _; rfl
    | succ k ih =>
      intro hk
      rw [List.take_succ_eq_append_getElem (by omega), sumV_snoc, sumI_snoc, ih (by omega)]
      have h1 := sumI_in (L := L.take k) fun q hq => h q (List.mem_of_mem_take hq)
      have h2 := h (L[k]'(by omega)) (List.getElem_mem _)
      rw [List.length_take] at h1
      have h3 : ((min k L.length : Nat) : Int) ≤ 1000 := by omega
      refine wrap64_idT _ ?_ ?_ <;> omega
  have := key L.length (Nat.le_refl _)
  rwa [List.take_length] at this
/-- The body's relation: the box holds what has come. -/
structure SuI (h : Nat) (w : World) (pre : List Ri) (W : World) : Prop where
  bx : W.heap[h]? = some (.cells #[.int .i64 (sumV pre)] 3 (0, 0))
  bl : Below h w W
theorem SuI.abd (h : Nat) (w : World) (pre : List Ri) : Abd (h + 2) (h + 4) (SuI h w pre) := by
  rintro A A' ⟨h1, h3⟩ hk
  have hlt := blk_lt h1
  exact ⟨kpt_at hk h1 (.inl (by omega)), ⟨hk.os.trans h3.os, hk.tape.trans h3.tape, hk.output.trans h3.output, Nat.le_trans h3.size hk.size, fun k hl => (hk.block k (by omega) (.inl (by omega))).trans (h3.block k hl)⟩⟩
theorem trowi_po (po : Option Addr) (w : World) : Calls Try.prog 19 #[.pointer po] w fun e w' =>
    e = .returned (.func (.func 40) #[] #[.pointer (some ⟨w.heap.size, 0, none⟩)]) ∧ w' = w.alloc (.cells #[.pointer po] 42) := by
  go_enter Try.func19, Try.ntmps19
  go_wp2_with fail
  go_ret
  exact ⟨rfl, rfl⟩
set_option maxRecDepth 100000 in
set_option maxHeartbeats 2000000 in
theorem tsum_of (po : Option Addr) (N : Nat) (F : Int → Int) (w : World) (hF : ∀ x, 0 ≤ F x ∧ F x ≤ 1099511627776) (hS : ∀ W, Below w.heap.size w W → Calls Try.prog 41 #[.pointer po] W (Soi F N W)) (hN : N ≤ 1000) :
    Calls Try.prog 18 #[.pointer po] w fun e w' => ∃ L, SoLi F N L ∧ e = .returned (.int .i64 (sumI L)) ∧ Below w.heap.size w w' := by
  have HS := Kp.mk hS
  have HF := Kp.mk hF
  refine (callsIn_wide (n := 5)).1 ?_
  refine callsIn_of_wp_marks Try.func18 rfl trivial ?_ rfl
  simp only [Try.ntmps18, List.size_toArray, List.length_cons, List.length_nil, Nat.reduceAdd, Nat.reduceSub, Array.replicate_succ, Array.replicate_zero, List.push_toArray, List.append_toArray, List.nil_append, List.cons_append]
  clear hS hF
  gi_wp2_with fail
  refine ⟨trivial, (callsIn_wide.2 (trowi_po po _)).mono ?_⟩
  rintro e w1 ⟨rfl, rfl⟩
  gi_wp2_with fail
  try simp only [Nat.add_assoc, Nat.reduceAdd]
  obtain ⟨w0, hw0⟩ : ∃ w0, ((w.alloc (.cells #[.int .i64 0] 3)).alloc (.cells #[.pointer po] 42)) = w0 := ⟨_, rfl⟩
  have e1 : (w.alloc (.cells #[.int .i64 0] 3)).heap.size = w.heap.size + 1 := World.size_alloc _ _
  have k1 := heap_alloc_new (w.alloc (.cells #[.int .i64 0] 3)) (.cells #[.pointer po] 42)
  rw [e1, hw0] at k1
  have S0 : w0.heap.size = w.heap.size + 2 := by rw [← hw0, World.size_alloc, e1]
  have HBL := Kp.mk (show Below w.heap.size w w0 by rw [← hw0]; exact (Below.refl _ _).alloc (Nat.le_refl _) _ |>.alloc (by rw [e1]; omega) _)
  have HI := Kp.mk (show SuI w.heap.size w [] w0 by
    refine ⟨?_, HBL.out⟩
    rw [← hw0]
    exact blk_alloc (heap_alloc_new w _))
  have HS0 := Kp.mk S0
  have HB1 := Kp.mk k1
  rw [hw0]
  clear e1 k1 hw0 S0
  generalize hh : w.heap.size = h at *
  refine rfo_law (n := 5) rfl (by omega) (gf := 40) (lb := #[.pointer (some ⟨h + 1, 0, none⟩)]) rfl trivial (enters_of Try.func40 (by kernel_rfl) rfl)
    (fun k o => h + 1 ≤ k) (h + 4) (by rw [HS0.out]; omega) (fun j o a b => by have := HS0.out; omega)
    (S := SoLi F N) (Sp := fun pre => ∃ L, SoLi F N L ∧ pre <+: L) (N := N + 1) (encs := rowEi) ?seq (fun x => rfl) (SuI h w) (fun _ _ _ => False)
    (fun pre => by rw [HS0.out]; exact SuI.abd _ _ _) (fun c pre => fun _ _ hf _ => hf) HI.out
    (fun x => { tmps := #[.pointer po, undef, .int .i64 0, .pointer (some ⟨h, 0, none⟩), undef, .int .i64 x.2, .pointer po, .func (.func 40) #[] #[.pointer (some ⟨h + 1, 0, none⟩)], .int .i64 x.1, .int .i64 x.2, undef, undef, undef, undef], defers := [] }) ?assign ?body ?done ?stop
  case seq =>
    intro W hW hb
    have e := tri_seqP 4 (w0.heap.size + 1) (h + 1) N po F (fun j o => h + 1 ≤ j ∧ j ≠ w0.heap.size + 1) W (HS.out W (HBL.out.trans (hb.mono (by rw [HS0.out]; omega)))) hN ((hb.block _ (blk_lt HB1.out)).trans HB1.out) (fun k cur hk => by
      have := HS0.out
      exact ⟨by omega, by omega⟩)
    rw [show W.heap.size = h + 4 by have := HS0.out; omega] at e
    exact e
  case assign =>
    rintro l ⟨x1, x2⟩ W K hK
    simp only [rowEi]
    gi_wp2
    exact hK
  case body =>
    rintro l pre x W hI hlen hz
    obtain ⟨r2, bel⟩ := hI
    obtain ⟨x1, x2⟩ := x
    have R2 := Kp.mk r2
    have BEL := Kp.mk bel
    have HSV := Kp.mk (sumV_snoc pre (x1, x2))
    have c2 := blk_cell (i := 0) r2 rfl
    have f2 := blk_free (i := 0) r2
    clear r2 bel
    dsimp only at HSV
    generalize sumV pre = S at *
    gi_wp2_with fail
    refine ⟨⟨rfl, rfl, rfl, by simp, fun k o hk hf => (Below.heap_setCell _ _ _ _ (show k ≠ h from fun e => absurd (show h + 1 ≤ k from hf) (by rw [e]; omega))).trans hk⟩, ⟨by rw [HSV.out]; exact blk_set (i := 0) R2.out _, BEL.out.setCell (by simp) _⟩⟩
  case done =>
    rintro xs W hxs hI hK
    obtain ⟨r2, bel⟩ := hI
    have R2 := Kp.mk r2
    have BEL := Kp.mk bel
    have HX := Kp.mk hxs
    have hs0 := HS0.out
    have HSV := Kp.mk (sumV_eq xs.length xs rfl (by have := hxs.1; omega) fun p hp => by
      obtain ⟨g1, g2, g3⟩ := (hxs.mem p).1 hp
      have := HF.out p.1
      omega)
    have HD := Kp.mk hK
    have c2 := blk_cell (i := 0) r2 rfl
    rw [HSV.out] at c2
    clear r2 bel hK hxs
    gi_wp2_with fail
    refine ⟨by simp, .inl ⟨_, _, rfl, run_takeDeferred HD.out, ?_⟩⟩
    refine ⟨.int .i64 (sumI xs), ?_, ?_⟩
    · simp [results, Try.results18, go_sem, Result.andThen]
    · refine ⟨xs, HX.out, rfl, ?_⟩
      rw [hh]
      exact below_putT BEL.out (by omega) HD.out
  case stop =>
    rintro c pre W hp hX hK
    exact hX.elim
theorem tsums_any (B b N : Nat) (F : Int → Int) (w : World) (hT : Tyi B b N F w) (hN : N ≤ 1000) :
    Calls Try.prog 18 #[.pointer (some ⟨b, 0, none⟩)] w fun e w' => ∃ L, SoLi F N L ∧ e = .returned (.int .i64 (sumI L)) ∧ Below w.heap.size w w' :=
  tsum_of _ N F w hT.le (fun W hW => tsorti_any B b N F W (hT.below hW) hN) hN
/-- A nil tally counts nothing. -/
theorem tadd_nil (w : World) : Calls Try.prog 16 #[.pointer none, .int .i64 1, .int .i64 1] w fun e w' => e = .returned (.int .i64 0) ∧ w = w' := by
  go_enter Try.func16, Try.ntmps16
  go_wp2_with fail
  go_ret
  exact ⟨rfl, rfl⟩
theorem tof_nil (w : World) : Calls Try.prog 17 #[.pointer none, .int .i64 1] w fun e w' => e = .returned (.int .i64 0) ∧ w = w' := by
  go_enter Try.func17, Try.ntmps17
  go_wp2_with fail
  go_ret
  exact ⟨rfl, rfl⟩
theorem tsort_nil (w : World) : Calls Try.prog 41 #[.pointer none] w (Soi (fun _ => 0) 0 w) := by
  have HB := Kp.mk ((Below.refl w.heap.size w).alloc (Nat.le_refl _) (.cells #[.slice none 0 0] 78))
  go_enter Try.func41, Try.ntmps41
  go_wp2_with fail
  go_ret
  exact ⟨.slice none 0 0, [], rfl, World.ownsRow_nil _ _ _ _, HB.out, Nat.zero_le _, by simp, List.Pairwise.nil, fun p hp => (by cases hp), fun x hw hq => absurd hq (by simp)⟩
theorem tsum_nil (w : World) : Calls Try.prog 18 #[.pointer none] w fun e w' => e = .returned (.int .i64 0) ∧ Below w.heap.size w w' := by
  refine (tsum_of none 0 (fun _ => 0) w (fun x => by omega) (fun W _ => tsort_nil W) (by omega)).mono ?_
  rintro e w' ⟨L, hL, rfl, hb⟩
  have : L = [] := List.length_eq_zero_iff.1 (by have := hL.1; omega)
  subst this
  exact ⟨rfl, hb⟩
end Go.Proofs.Ytocnecbhpofdgaa
