/- A peer and a link: Read, Grant (layer 42). Made by bin/mkwie.py. -/
import Derived.Test.YtpgnekejemockaaWid
namespace Go.Proofs.Ytpgnekejemockaa
open Go.RowKit
set_option linter.unusedVariables false
set_option linter.unusedSimpArgs false

theorem giveN_leW (e0 e1 : Bool) (M : Nat) (S : List UInt8) (s : ByteArray) : giveN e0 e1 M S s ≤ s.size := by
  unfold giveN
  split
  · exact Nat.zero_le _
  · omega
def bxF (F : Nat → Prop) (n : Nat) : Nat → Prop := fun k => (F k ∨ k = n) ∨ k = n + 1
theorem new_bxp (w : World) (b : Nat) (t : TypeId) : Bxp w.heap.size b t (w.alloc (.cells #[.pointer (some ⟨b, 0, none⟩)] t)) := ⟨heap_alloc_new w _⟩
theorem Bxp.alloc {x b : Nat} {t : TypeId} {w : World} (h : Bxp x b t w) (o : Obj) : Bxp x b t (w.alloc o) := ⟨blk_alloc h.blk⟩
set_option maxHeartbeats 1000000 in
set_option maxRecDepth 100000 in
theorem wRead (A F : Nat → Prop) (b rd : Nat) (en : Bool) (s1 s2 : ByteArray) (kb qb qg M : Nat) (S O : List UInt8) (e0 e1 : Bool) (n : Int) (w : World) (h : WR A b rd en s1 s2 w) (hk : LK F kb qb qg M S O e0 e1 w) (hAF : ∀ k, A k → F k) (hF : ∀ k, F k → k < w.heap.size)
    (hr : rd ≤ s1.size) (hs : s1.size ≤ 100000) (u : Nat) (hu : u = min n.toNat (s1.size - rd)) (g : Nat) (hg : g = giveN e0 e1 M S (rdT s1 rd u)) :
    Calls Try.prog 55 #[.pointer (some ⟨b, 0, none⟩), .pointer (some ⟨kb, 0, none⟩), .int .i64 n] w fun e w' =>
      e = .returned (.int .i64 (g : Nat)) ∧ RdTo A F b (rd + g) en s1 s2 kb qb qg M (S ++ (rdT s1 rd u).data.toList.take g) O (e0 || (en && decide (s1.size - (rd + g) = 0))) e1 w w' := by
  have HAL : ∀ k, A k → k < w.heap.size := fun k hk => hF k (hAF k hk)
  have hgs : g ≤ s1.size - rd := by
    have := giveN_leW e0 e1 M S (rdT s1 rd u)
    have h2 : (rdT s1 rd u).size ≤ s1.size - rd := by unfold rdT; simp; omega
    omega
  have H := Kp.mk h
  have HLK := Kp.mk (show LK (bxF F w.heap.size) kb qb qg M S O e0 e1 w from (hk.add w.heap.size (Nat.le_refl _)).add (w.heap.size + 1) (by omega))
  have HAF := Kp.mk (show ∀ k, A k → bxF F w.heap.size k from fun k hk => .inl (.inl (hAF k hk)))
  have HX0 := Kp.mk (show bxF F w.heap.size w.heap.size ∧ ¬ A w.heap.size from ⟨.inl (.inr rfl), fun h => Nat.lt_irrefl _ (HAL _ h)⟩)
  have HX1 := Kp.mk (show bxF F w.heap.size (w.heap.size + 1) ∧ ¬ A (w.heap.size + 1) from ⟨.inr rfl, fun h => by have := HAL _ h; omega⟩)
  have HHAF := Kp.mk hAF
  have HS := Kp.mk hs
  have HR := Kp.mk hr
  have HU := Kp.mk hu
  have HG := Kp.mk hg
  have HGS := Kp.mk hgs
  clear h hk hAF hF hu hg hgs HAL hr hs
  go_enter Try.func55, Try.ntmps55
  go_wp2_with fail
  refine (wLeft A b rd en s1 s2 _ ((H.out.alloc _).alloc _) HR.out (by have := HS.out; omega)).mono ?_
  rintro e w1 ⟨rfl, h1, hk1⟩
  have H1 := Kp.mk h1
  have HY1 := Kp.mk (((new_bxp w b 65).alloc _).kpt hk1 HX0.out.2)
  have HX1' := Kp.mk (Bxp.kpt (x := w.heap.size + 1) (b := kb) (t := 67) ⟨by
    have := (new_bxp (w.alloc (.cells #[.pointer (some ⟨b, 0, none⟩)] 65)) kb 67).blk
    rw [show (w.alloc (.cells #[.pointer (some ⟨b, 0, none⟩)] 65)).heap.size = w.heap.size + 1 by simp] at this
    exact this⟩ hk1 HX1.out.2)
  have HLK1 := Kp.mk (LK.kpt ((HLK.out.allocW _).allocW _) hk1 HAF.out)
  have HW1 := Kp.mk h1
  have HKP1 := Kp.mk (show Kpt (fun k => F k ∧ ¬ A k) w w1 from (((Kpt.refl _ w).alloc _).alloc _).trans (hk1.mono fun k hk => hk.2))
  have b3 := HY1.out.cell
  have b4 := HX1'.out.cell
  clear hk1 h1
  go_wp2_with fail
  refine (wmoved 87 (.pointer (some ⟨w.heap.size + 1, 0, none⟩)) (.pointer (some ⟨w.heap.size, 0, none⟩)) n _ (fun i w' => i = (g : Int) ∧ RdTo A (bxF F w.heap.size) b rd en s1 s2 kb qb qg M (S ++ (rdT s1 rd u).data.toList.take g) O e0 e1 w1 w') w1 callF_wread ?_ ?_).mono ?_
  · intro hm
    have hu0 : u = 0 := by have := HU.out; omega
    have hg0 : g = 0 := by
      have := giveN_leW e0 e1 M S (rdT s1 rd u)
      have h2 : (rdT s1 rd u).size = 0 := by rw [hu0]; unfold rdT; simp
      have h3 := HG.out
      omega
    refine ⟨by rw [hg0]; rfl, HW1.out, ?_, Kpt.refl _ _⟩
    rw [hg0, List.take_zero, List.append_nil]
    exact HLK1.out
  · intro hm
    have hmu : min n ((s1.size - rd : Nat) : Int) = (u : Int) := by have := HU.out; omega
    rw [hmu]
    refine (wread1 A (bxF F w.heap.size) b rd en s1 s2 kb qb qg M S O e0 e1 (w.heap.size + 1) w.heap.size _ _ u w1 HW1.out HLK1.out HAF.out HX1'.out HY1.out HX1.out HX0.out HR.out HS.out (by have := HU.out; omega)).mono ?_
    rintro e w' ⟨rfl, h2⟩
    refine ⟨_, rfl, by rw [HG.out], ?_⟩
    rw [← HG.out] at h2
    exact h2
  · rintro e w2 ⟨i, rfl, rfl, h2⟩
    have HY2 := Kp.mk (HY1.out.kpt h2.kp HX0.out)
    have HX2 := Kp.mk (HX1'.out.kpt h2.kp HX1.out)
    have HW2 := Kp.mk h2.wr
    have HLK2 := Kp.mk h2.lk
    have HKP2 := Kp.mk (HKP1.out.trans (h2.kp.mono fun k hk => ⟨.inl (.inl hk.1), hk.2⟩))
    have e3 := HY2.out.cell
    have e4 := HX2.out.cell
    have e2 := h2.wr.cell2
    have ef := h2.wr.free 2
    have ee := h2.wr.cell3
    obtain ⟨r2, hr2⟩ : ∃ r2 : Nat, r2 = rd + g := ⟨_, rfl⟩
    have hw2 : IntKind.i64.wrap ((rd : Int) + (g : Int)) = (r2 : Int) := by
      rw [hr2]
      exact wrap_idW (by omega) (by have := HS.out; have := HGS.out; have := HR.out; omega)
    have HR2 := Kp.mk (show r2 ≤ s1.size by have := HS.out; have := HGS.out; have := HR.out; omega)
    have HR3 := Kp.mk hr2
    have hKS : Kpt (fun k => ¬ A k) w2 (w2.setCell ⟨b, 2, none⟩ (.int .i64 (r2 : Int))) := (Kpt.refl _ w2).setCell _ _ (fun h => h HW2.out.has)
    have HKS := Kp.mk hKS
    have e3s := (HY2.out.kpt hKS HX0.out.2).cell
    clear h2 hr2 b3 b4 hKS
    go_wp2_with fail
    refine (wLeft A b r2 en s1 s2 _ (HW2.out.setRd r2) HR2.out (by have := HS.out; omega)).mono ?_
    rintro e w3 ⟨rfl, h3, hk3⟩
    have HK3 := Kp.mk (HKS.out.trans hk3)
    have HW3 := Kp.mk h3
    have HY3 := Kp.mk (HY2.out.kpt HK3.out HX0.out.2)
    have HX3 := Kp.mk (HX2.out.kpt HK3.out HX1.out.2)
    have HLK3 := Kp.mk (HLK2.out.kpt HK3.out HAF.out)
    have HKP3 := Kp.mk (HKP2.out.trans (HK3.out.mono fun k (hk : F k ∧ ¬ A k) => hk.2))
    have g3 := HY3.out.cell
    have g4 := HX3.out.cell
    have gn := h3.cell3
    clear h3 hk3 e2 ef ee e3 e4 e3s
    by_cases hz : s1.size - r2 = 0
    · have HZ := Kp.mk (show decide (s1.size - (rd + g) = 0) = true from decide_eq_true (by rw [← HR3.out]; exact hz))
      have hz1 : (((s1.size - r2 : Nat) : Int) == 0) = true := by rw [hz]; rfl
      cases en
      · clear hz
        go_wp2_with fail
        go_ret
        refine ⟨rfl, by rw [← HR3.out]; exact HW3.out, ?_, HKP3.out⟩
        rw [Bool.false_and, Bool.or_false]
        exact HLK3.out.mono fun k hk => .inl (.inl hk)
      · clear hz
        go_wp2_with fail
        refine (lk_end (bxF F w.heap.size) kb qb qg M _ O e0 e1 _ HLK3.out).mono ?_
        rintro e w4 ⟨rfl, h4, hk4⟩
        have H4 := Kp.mk h4
        have HK4 := Kp.mk hk4
        clear h4 hk4
        go_wp2_with fail
        go_ret
        refine ⟨rfl, by rw [← HR3.out]; exact HW3.out.kpt HK4.out HAF.out, ?_, HKP3.out.trans (HK4.out.mono fun k hk => .inl (.inl hk.1))⟩
        rw [HZ.out, Bool.true_and, Bool.or_true]
        exact H4.out.mono fun k hk => .inl (.inl hk)
    · have HZ := Kp.mk (show decide (s1.size - (rd + g) = 0) = false from decide_eq_false (by rw [← HR3.out]; exact hz))
      have hz1 : (((s1.size - r2 : Nat) : Int) == 0) = false := i64nq (by omega)
      clear hz
      go_wp2_with fail
      go_ret
      refine ⟨rfl, by rw [← HR3.out]; exact HW3.out, ?_, HKP3.out⟩
      rw [HZ.out, Bool.and_false, Bool.or_false]
      exact HLK3.out.mono fun k hk => .inl (.inl hk)
end Go.Proofs.Ytpgnekejemockaa
