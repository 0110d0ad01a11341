/- A peer and a link: Grant (layer 42). Made by bin/mkwig.py. -/
import Derived.Test.YtpgnekejemockaaWie
namespace Go.Proofs.Ytpgnekejemockaa
open Go.RowKit
set_option linter.unusedVariables false
set_option linter.unusedSimpArgs false

theorem LK.addAll {F G : Nat → Prop} {b qb qg M : Nat} {S O : List UInt8} {e0 e1 : Bool} {w : World} (h : LK F b qb qg M S O e0 e1 w) (hG : ∀ k, G k → F k ∨ w.heap.size ≤ k) : LK G b qb qg M S O e0 e1 w := by
  obtain ⟨v, h⟩ := h
  have h1 := blk_lt h.blk
  have h2 := h.q.lt
  refine ⟨v, h.blk, h.q, h.own, h.ne, h.apart, fun k => ?_, fun k => ?_, fun k => ?_, fun k hk k2 => ?_⟩
  · rcases hG _ k with k | k
    · exact h.fb k
    · omega
  · rcases hG _ k with k | k
    · exact h.fq k
    · omega
  · rcases hG _ k with k | k
    · exact h.fg k
    · omega
  · rcases hG _ k2 with k2 | k2
    · exact h.fv k hk k2
    · have := (h.own.lt k hk).2; omega
theorem WR.shrink {A : Nat → Prop} {b rd : Nat} {en : Bool} {s1 s2 : ByteArray} {w : World} (h : WR A b rd en s1 s2 w) : ∃ A2 : Nat → Prop, WR A2 b rd en s1 s2 w ∧ (∀ k, A2 k → A k) ∧ ∀ k, A2 k → k < w.heap.size := by
  obtain ⟨p1, v1, p2, v2, h, ha⟩ := h
  refine ⟨fun k => A k ∧ k < w.heap.size, ⟨p1, v1, p2, v2, h, ⟨ha.a0, blk_lt h.blk⟩, fun k hk => ⟨ha.a1 k hk, (h.o1.lt k hk).2⟩, fun k hk => ⟨ha.a2 k hk, (h.o2.lt k hk).2⟩⟩, fun k hk => hk.1, fun k hk => hk.2⟩
/-- What an act of the peer leaves of the link. -/
theorem LK.wto {A F : Nat → Prop} {b rd : Nat} {en : Bool} {s1 s2 : ByteArray} {kb qb qg M : Nat} {S O : List UInt8} {e0 e1 : Bool} {w w' : World} (h : LK F kb qb qg M S O e0 e1 w) (hA : ∀ k, A k → F k) (hw : WTo A b rd en s1 s2 w w') :
    ∃ A' : Nat → Prop, WR A' b rd en s1 s2 w' ∧ (∀ k, A' k → k < w'.heap.size) ∧ (∀ k, A' k → A k ∨ w.heap.size ≤ k) ∧ LK (fun k => F k ∨ A' k) kb qb qg M S O e0 e1 w' ∧ Kpt (fun k => F k ∧ ¬ A k) w w' := by
  obtain ⟨A1, h1, h2, h3⟩ := hw
  obtain ⟨A2, g1, g2, g3⟩ := h1.shrink
  refine ⟨A2, g1, g3, fun k hk => h2 k (g2 k hk), ?_, h3.mono fun k hk => hk.2⟩
  exact LK.kpt (A := A) (h.addAll (G := fun k => F k ∨ A2 k) fun k hk => by
    rcases hk with hk | hk
    · exact .inl hk
    · exact (h2 k (g2 k hk)).imp (hA k) id) h3 fun k hk => .inl (hA k hk)
structure GrTo (A F : Nat → Prop) (b rd : Nat) (en : Bool) (s1 s2 : ByteArray) (kb qb qg M : Nat) (S O : List UInt8) (e0 e1 : Bool) (w w' : World) : Prop where
  ex : ∃ A' : Nat → Prop, WR A' b rd en s1 s2 w' ∧ (∀ k, A' k → k < w'.heap.size) ∧ (∀ k, A' k → A k ∨ w.heap.size ≤ k) ∧ LK (fun k => F k ∨ A' k) kb qb qg M S O e0 e1 w'
  kp : Kpt (fun k => F k ∧ ¬ A k) w w'
set_option maxHeartbeats 1000000 in
set_option maxRecDepth 100000 in
theorem wgrant1 (A F : Nat → Prop) (b rd : Nat) (en : Bool) (s1 s2 : ByteArray) (kb qb qg M : Nat) (S O : List UInt8) (e0 e1 : Bool) (x y t1 t2 m : Nat) (w : World) (h : WR A b rd en s1 s2 w) (hk : LK F kb qb qg M S O e0 e1 w) (hAF : ∀ k, A k → F k)
    (bx : Bxp x b t1 w) (by_ : Bxp y kb t2 w) (hx : F x ∧ ¬ A x) (hy : F y ∧ ¬ A y) (hs : s2.size + O.length ≤ 10000000) :
    Calls Try.prog 92 #[.int .i64 (m : Int), .pointer (some ⟨x, 0, none⟩), .pointer (some ⟨y, 0, none⟩)] w fun e w' =>
      e = .returned (.int .i64 (m : Int)) ∧ GrTo A F b rd en s1 (s2 ++ oB (O.take m)) kb qb qg M S (O.drop m) e0 e1 w w' := by
  have H := Kp.mk h
  have HK := Kp.mk (hk.drewN 1)
  have HX := Kp.mk bx
  have HY := Kp.mk by_
  have HAF := Kp.mk hAF
  have HFX := Kp.mk hx
  have HFY := Kp.mk hy
  have cx := bx.cell
  have cy := by_.cell
  have HZ := Kp.mk (show s2.size + (oB (O.take m)).size ≤ 140737488355328 by rw [oB_size, List.length_take]; omega)
  have HM := Kp.mk (Int.toNat_natCast m)
  clear h hk bx by_ hAF hx hy hs
  go_enter Try.func92, Try.ntmps92
  go_wp2_with fail
  go_region_with (first
    | (go_at_call 93; refine (lk_take F kb qb qg M S O e0 e1 (m : Int) _ HK.out).mono ?_; rintro e w2 ⟨rfl, h2, hk2⟩; rw [HM.out] at *; have H2 := Kp.mk h2; have HK2 := Kp.mk ((Kpt.of (gdrewN w 1)).trans hk2); have cx2 := ((HX.out).kpt HK2.out HFX.out.1).cell; have cy2 := ((HY.out).kpt HK2.out HFY.out.1).cell; have HW2 := Kp.mk (H.out.kpt HK2.out HAF.out); clear h2 hk2)
    | (go_at_call 47; refine (wwrite4 A b rd en s1 s2 _ _ HW2.out HZ.out).mono ?_; rintro e w3 ⟨rfl, h3⟩; have H3 := Kp.mk (LK.wto H2.out HAF.out h3); clear h3))
  all_goals
    go_wp2_with fail
    go_ret
    obtain ⟨A', g1, g2, g3, g4, g5⟩ := H3.out
    exact ⟨rfl, ⟨A', g1, g2, fun k hk => (g3 k hk).imp id fun h => Nat.le_trans HK2.out.size h, g4⟩, (HK2.out.mono fun k hk => hk.1).trans g5⟩
set_option maxHeartbeats 1000000 in
set_option maxRecDepth 100000 in
theorem wGrant (A F : Nat → Prop) (b rd : Nat) (en : Bool) (s1 s2 : ByteArray) (kb qb qg M : Nat) (S O : List UInt8) (e0 e1 : Bool) (n : Int) (w : World) (h : WR A b rd en s1 s2 w) (hk : LK F kb qb qg M S O e0 e1 w) (hAF : ∀ k, A k → F k) (hF : ∀ k, F k → k < w.heap.size)
    (hs : s2.size + O.length ≤ 10000000) (u : Nat) (hu : u = min n.toNat O.length) :
    Calls Try.prog 62 #[.pointer (some ⟨b, 0, none⟩), .pointer (some ⟨kb, 0, none⟩), .int .i64 n] w fun e w' =>
      e = .returned (.int .i64 (u : Int)) ∧ GrTo A F b rd en s1 (s2 ++ oB (O.take u)) kb qb qg M S (O.drop u) e0 e1 w w' := by
  have HAL : ∀ k, A k → k < w.heap.size := fun k hk => hF k (hAF k hk)
  have H := Kp.mk h
  have HLK := Kp.mk (show LK (bxF F w.heap.size) kb qb qg M S O e0 e1 w from (hk.add w.heap.size (Nat.le_refl _)).add (w.heap.size + 1) (by omega))
  have HAF := Kp.mk (show ∀ k, A k → bxF F w.heap.size k from fun k hk => .inl (.inl (hAF k hk)))
  have HX0 := Kp.mk (show bxF F w.heap.size w.heap.size ∧ ¬ A w.heap.size from ⟨.inl (.inr rfl), fun h => Nat.lt_irrefl _ (HAL _ h)⟩)
  have HX1 := Kp.mk (show bxF F w.heap.size (w.heap.size + 1) ∧ ¬ A (w.heap.size + 1) from ⟨.inr rfl, fun h => by have := HAL _ h; omega⟩)
  have HHAF := Kp.mk hAF
  have HALK := Kp.mk HAL
  have HS := Kp.mk hs
  have HU := Kp.mk hu
  clear h hk hAF hF hu HAL hs
  go_enter Try.func62, Try.ntmps62
  go_wp2_with fail
  refine (lk_waits (bxF F w.heap.size) kb qb qg M S O e0 e1 _ ((HLK.out.allocW _).allocW _)).mono ?_
  rintro e w1 ⟨rfl, hw1⟩
  have HW1 := Kp.mk (show WR A b rd en s1 s2 w1 from hw1 ▸ ((H.out.alloc _).alloc _))
  have HLK1 := Kp.mk (show LK (bxF F w.heap.size) kb qb qg M S O e0 e1 w1 from hw1 ▸ ((HLK.out.allocW _).allocW _))
  have HBX := Kp.mk (show Bxp w.heap.size b 65 w1 from hw1 ▸ (new_bxp w b 65).alloc _)
  have HBY := Kp.mk (show Bxp (w.heap.size + 1) kb 67 w1 from hw1 ▸ ⟨by
    have := (new_bxp (w.alloc (.cells #[.pointer (some ⟨b, 0, none⟩)] 65)) kb 67).blk
    rw [show (w.alloc (.cells #[.pointer (some ⟨b, 0, none⟩)] 65)).heap.size = w.heap.size + 1 by simp] at this
    exact this⟩)
  have HKP1 := Kp.mk (show Below w.heap.size w w1 by rw [← hw1]; exact ((Below.refl _ w).alloc (Nat.le_refl _) _).alloc (by simp) _)
  clear hw1
  go_wp2_with fail
  refine (wmoved 92 (.pointer (some ⟨w.heap.size, 0, none⟩)) (.pointer (some ⟨w.heap.size + 1, 0, none⟩)) n _ (fun i w' => i = (u : Int) ∧ GrTo A (bxF F w.heap.size) b rd en s1 (s2 ++ oB (O.take u)) kb qb qg M S (O.drop u) e0 e1 w1 w') w1 callF_wgrant ?_ ?_).mono ?_
  · intro hm
    have hu0 : u = 0 := by have := HU.out; omega
    subst hu0
    refine ⟨rfl, ⟨A, ?_, fun k hk => ?_, fun k hk => .inl hk, ?_⟩, Kpt.refl _ _⟩
    · rw [List.take_zero, show s2 ++ oB [] = s2 from ba_ext2B (by rw [cat_app, oB_list, List.append_nil])]
      exact HW1.out
    · have := HALK.out k hk; have := HKP1.out.size; omega
    · rw [List.drop_zero]
      exact HLK1.out.mono fun k hk => hk.elim id (HAF.out k)
  · intro hm
    have hmu : min n (O.length : Int) = (u : Int) := by have := HU.out; omega
    rw [hmu]
    refine (wgrant1 A (bxF F w.heap.size) b rd en s1 s2 kb qb qg M S O e0 e1 w.heap.size (w.heap.size + 1) _ _ u w1 HW1.out HLK1.out HAF.out HBX.out HBY.out HX0.out HX1.out HS.out).mono ?_
    rintro e w' ⟨rfl, h2⟩
    exact ⟨_, rfl, rfl, h2⟩
  · rintro e w2 ⟨i, rfl, rfl, h2⟩
    have H2 := Kp.mk h2
    clear h2
    go_wp2_with fail
    go_ret
    obtain ⟨A', g1, g2, g3, g4⟩ := H2.out.ex
    exact ⟨rfl, ⟨A', g1, g2, fun k hk => (g3 k hk).imp id fun h => Nat.le_trans HKP1.out.size h, g4.mono fun k hk => hk.imp (fun h => .inl (.inl h)) id⟩, (Kpt.of HKP1.out).trans (H2.out.kp.mono fun k hk => ⟨.inl (.inl hk.1), hk.2⟩)⟩
end Go.Proofs.Ytpgnekejemockaa
