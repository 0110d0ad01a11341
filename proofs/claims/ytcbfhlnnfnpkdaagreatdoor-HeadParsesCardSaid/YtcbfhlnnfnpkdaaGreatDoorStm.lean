/- First lines (layer 15): a request's line read, the program's. -/
import Derived.Test.YtcbfhlnnfnpkdaaGreatDoorStl
namespace Go.Proofs.YtcbfhlnnfnpkdaaGreatDoor
open Go.RowKit
set_option linter.unusedVariables false
set_option linter.unusedSimpArgs false

/-- A block of six cells, stored into. -/
theorem res6_end {w w2 : World} {b : Nat} {t : TypeId} {a0 a1 a2 a3 a4 a5 : Value} (hk : w2.heap[b]? = some (.cells #[a0, a1, a2, a3, a4, a5] t (0, 0))) (hb : Below w.heap.size w w2) (hB : w.heap.size ≤ b) (u0 u1 u2 u3 u4 u5 : Value) :
    ((((((w2.setCell ⟨b, 0, none⟩ u0).setCell ⟨b, 1, none⟩ u1).setCell ⟨b, 2, none⟩ u2).setCell ⟨b, 3, none⟩ u3).setCell ⟨b, 4, none⟩ u4).setCell ⟨b, 5, none⟩ u5).heap[b]? = some (.cells #[u0, u1, u2, u3, u4, u5] t (0, 0)) ∧ Below w.heap.size w ((((((w2.setCell ⟨b, 0, none⟩ u0).setCell ⟨b, 1, none⟩ u1).setCell ⟨b, 2, none⟩ u2).setCell ⟨b, 3, none⟩ u3).setCell ⟨b, 4, none⟩ u4).setCell ⟨b, 5, none⟩ u5) :=
  ⟨(blk_set (blk_set (blk_set (blk_set (blk_set (blk_set hk _) _) _) _) _) _).trans rfl, (((((hb.setCell hB _).setCell hB _).setCell hB _).setCell hB _).setCell hB _).setCell hB _⟩
theorem tw_new (w : World) (o : Obj) (k : Nat) (h : w.heap.size = k) : (w.alloc o).heap[k]? = some o := by subst h; exact heap_alloc_new w o
def ReqPost (s : ByteArray) (w : World) (e : Ending) (w' : World) : Prop :=
  e = .returned (.tuple #[.agg #[.string (reqM s), .string (reqT s), .int .i64 (reqN s), .int .i64 0, .string ⟨#[]⟩, .slice none 0 0], .int .i64 (reqE s)]) ∧ Below w.heap.size w w'
theorem req_chk (s : ByteArray) : chkE [(decide (cnt32 s = 2), 3), (tokenB (cut1 s), 6), (visibleB (cut1 (cut2 s)), 11), (decide (minE (cut2 (cut2 s)) = 0), minE (cut2 (cut2 s)))] = reqE s := by
  have gen : ∀ (c : Nat) (a b : Bool) (m : Int), chkE [(decide (c = 2), 3), (a, 6), (b, 11), (decide (m = 0), m)] = if c ≠ 2 then 3 else if a = false then 6 else if b = false then 11 else m := by
    intro c a b m
    by_cases h1 : c = 2 <;> cases a <;> cases b <;> by_cases h4 : m = 0 <;> simp [chkE, h1, h4]
  exact gen _ _ _ _
/-- The blocks, one behind the other. -/
theorem req_tower (w : World) (A B C D E F : Obj) (n1 n2 : Nat) :
    let W := ((((((((w.alloc A).alloc B).drewN n1).alloc C).drewN n2).alloc D).alloc E).alloc F)
    W.heap[w.heap.size]? = some A ∧ W.heap[w.heap.size + 1]? = some B ∧ W.heap[w.heap.size + 1 + 1]? = some C ∧ W.heap[w.heap.size + 1 + 1 + 1]? = some D ∧ W.heap[w.heap.size + 1 + 1 + 1 + 1]? = some E ∧ W.heap[w.heap.size + 1 + 1 + 1 + 1 + 1]? = some F ∧ Below w.heap.size w W := by
  have a1 : (w.alloc A).heap.size = w.heap.size + 1 := World.size_alloc _ _
  have a2 : ((w.alloc A).alloc B).heap.size = w.heap.size + 1 + 1 := by rw [World.size_alloc, a1]
  have a2' : (((w.alloc A).alloc B).drewN n1).heap.size = w.heap.size + 1 + 1 := a2
  have a3 : ((((w.alloc A).alloc B).drewN n1).alloc C).heap.size = w.heap.size + 1 + 1 + 1 := by rw [World.size_alloc, a2']
  have a3' : (((((w.alloc A).alloc B).drewN n1).alloc C).drewN n2).heap.size = w.heap.size + 1 + 1 + 1 := a3
  have a4 : ((((((w.alloc A).alloc B).drewN n1).alloc C).drewN n2).alloc D).heap.size = w.heap.size + 1 + 1 + 1 + 1 := by rw [World.size_alloc, a3']
  have a5 : (((((((w.alloc A).alloc B).drewN n1).alloc C).drewN n2).alloc D).alloc E).heap.size = w.heap.size + 1 + 1 + 1 + 1 + 1 := by rw [World.size_alloc, a4]
  have b0 := Below.refl w.heap.size w
  refine ⟨?_, ?_, ?_, ?_, ?_, ?_, ?_⟩
  · exact blk_alloc (blk_alloc (blk_alloc (blk_drewN (blk_alloc (blk_drewN (blk_alloc (heap_alloc_new w A)) n1)) n2)))
  · exact blk_alloc (blk_alloc (blk_alloc (blk_drewN (blk_alloc (blk_drewN (tw_new _ B _ a1) n1)) n2)))
  · exact blk_alloc (blk_alloc (blk_alloc (blk_drewN (tw_new _ C _ a2') n2)))
  · exact blk_alloc (blk_alloc (tw_new _ D _ a3'))
  · exact blk_alloc (tw_new _ E _ a4)
  · exact tw_new _ F _ a5
  · have c2 : Below w.heap.size w (((w.alloc A).alloc B).drewN n1) := (((b0.alloc (Nat.le_refl _) A).alloc (by omega) B).trans ((gdrewN _ n1).mono (by omega)))
    have c3 : Below w.heap.size w (((((w.alloc A).alloc B).drewN n1).alloc C).drewN n2) := (c2.alloc (by omega) C).trans ((gdrewN _ n2).mono (by omega))
    exact ((c3.alloc (by omega) D).alloc (by omega) E).alloc (by omega) F
set_option maxRecDepth 100000 in
set_option maxHeartbeats 4000000 in
theorem request_any (s : ByteArray) (w : World) (hs : s.size ≤ 1000000) : Calls Tryz.prog 26 #[.string s] w (ReqPost s w) := by
  have hc1 : (cut1 s).size ≤ s.size := ext_sizeS _ _ _
  have hc2 : (cut2 s).size ≤ s.size := ext_sizeS _ _ _
  have hc3 : (cut1 (cut2 s)).size ≤ (cut2 s).size := ext_sizeS _ _ _
  have hc4 : (cut2 (cut2 s)).size ≤ (cut2 s).size := ext_sizeS _ _ _
  have HCH := Kp.mk (req_chk s)
  have HRC := Kp.mk (req_cases s)
  go_enter Tryz.func26, Tryz.ntmps26
  go_wp2_with fail
  refine (cutS_any s _ (by omega)).mono ?_
  rintro e w1 ⟨rfl, n1, rfl⟩
  go_wp2_with fail
  refine (cutS_any (cut2 s) _ (by omega)).mono ?_
  rintro e w2 ⟨rfl, n2, rfl⟩
  go_wp2_with fail
  refine (minor_any (cut2 (cut2 s)) _ (by omega)).mono ?_
  rintro e w3 ⟨rfl, rfl⟩
  go_wp2_with fail
  obtain ⟨k0, k1, k2, k3, k4, k5, hbt⟩ := req_tower w (.cells #[.string s] 9) (.cells #[.string ⟨#[]⟩, .string ⟨#[]⟩, .int .i64 0, .int .i64 0, .string ⟨#[]⟩, .slice none 0 0] 29) (.cells #[.string (cut1 s)] 9) (.cells #[.string (cut1 (cut2 s))] 9) (.cells #[.int .i64 (minE (cut2 (cut2 s)))] 30)
    (.cells #[.func (.func 64) #[] #[.pointer (some ⟨w.heap.size, 0, none⟩)], .int .i64 3, .func (.func 66) #[] #[.pointer (some ⟨w.heap.size + 1 + 1, 0, none⟩)], .int .i64 6, .func (.func 67) #[] #[.pointer (some ⟨w.heap.size + 1 + 1 + 1, 0, none⟩)], .int .i64 11, .func (.func 68) #[] #[.pointer (some ⟨w.heap.size + 1 + 1 + 1 + 1, 0, none⟩)], .int .i64 (minE (cut2 (cut2 s)))] 85) n1 n2
  refine (rfirst_any s (cut1 s) (cut1 (cut2 s)) (minE (cut2 (cut2 s))) _ _ _ _ _ _ k5 (by omega) (by omega) (blk_cell (i := 0) k0 rfl) (blk_cell (i := 0) k2 rfl) (blk_cell (i := 0) k3 rfl) (blk_cell (i := 0) k4 rfl)).mono ?_
  rintro e w5 ⟨rfl, hb5⟩
  have d0 := (hb5.block _ (blk_lt k1)).trans k1
  have d2 := blk_cell (i := 0) ((hb5.block _ (blk_lt k2)).trans k2) rfl
  have d3 := blk_cell (i := 0) ((hb5.block _ (blk_lt k3)).trans k3) rfl
  have HB5 := Kp.mk (hbt.trans (hb5.mono hbt.size))
  rw [HCH.out]
  have g0 := blk_cell (i := 0) d0 rfl
  have g1 := blk_cell (i := 1) d0 rfl
  have g2 := blk_cell (i := 2) d0 rfl
  have g3 := blk_cell (i := 3) d0 rfl
  have g4 := blk_cell (i := 4) d0 rfl
  have g5 := blk_cell (i := 5) d0 rfl
  have f0 := blk_free (i := 0) d0
  have f1 := blk_free (i := 1) d0
  have f2 := blk_free (i := 2) d0
  have f3 := blk_free (i := 3) d0
  have f4 := blk_free (i := 4) d0
  have f5 := blk_free (i := 5) d0
  have HD0 := Kp.mk d0
  have HW := Kp.mk (show w.heap.size ≤ w.heap.size + 1 by omega)
  clear k0 k1 k2 k3 k4 k5 hbt hb5 d0
  by_cases h0 : reqE s = 0
  · have HX : reqM s = cut1 s ∧ reqT s = cut1 (cut2 s) ∧ reqN s = minN (cut2 (cut2 s)) := ⟨by unfold reqM; rw [if_pos h0], by unfold reqT; rw [if_pos h0], by unfold reqN; rw [if_pos h0]⟩
    have HXK := Kp.mk HX
    have HE := Kp.mk h0
    rw [h0]
    clear HX h0
    go_wp2_with fail
    obtain ⟨hre, hrb⟩ := res6_end HD0.out HB5.out HW.out (.string (cut1 s)) (.string (cut1 (cut2 s))) (.int .i64 (minN (cut2 (cut2 s)))) (.int .i64 0) (.string ⟨#[]⟩) (.slice none 0 0)
    have r0 := blk_cell (i := 0) hre rfl
    have r1 := blk_cell (i := 1) hre rfl
    have r2 := blk_cell (i := 2) hre rfl
    have r3 := blk_cell (i := 3) hre rfl
    have r4 := blk_cell (i := 4) hre rfl
    have r5 := blk_cell (i := 5) hre rfl
    exact bodyPost_ret (v := .tuple #[.agg #[.string (cut1 s), .string (cut1 (cut2 s)), .int .i64 (minN (cut2 (cut2 s))), .int .i64 0, .string ⟨#[]⟩, .slice none 0 0], .int .i64 0]) (by simp [results, Tryz.results26, go_sem, r0, r1, r2, r3, r4, r5]) rfl ⟨by rw [HE.out, HXK.out.1, HXK.out.2.1, HXK.out.2.2], hrb⟩
  · obtain ⟨-, e1, e2, e3⟩ := req_bad (s := s) rfl h0
    have HX := Kp.mk (And.intro e1 (And.intro e2 e3))
    have q : (reqE s != 0) = true := by rw [bne_iff_ne]; exact h0
    generalize hE : reqE s = E at *
    have HE := Kp.mk hE
    clear h0 e1 e2 e3 hE
    go_wp2_with fail
    obtain ⟨hre, hrb⟩ := res6_end HD0.out HB5.out HW.out (.string ⟨#[]⟩) (.string ⟨#[]⟩) (.int .i64 0) (.int .i64 0) (.string ⟨#[]⟩) (.slice none 0 0)
    have r0 := blk_cell (i := 0) hre rfl
    have r1 := blk_cell (i := 1) hre rfl
    have r2 := blk_cell (i := 2) hre rfl
    have r3 := blk_cell (i := 3) hre rfl
    have r4 := blk_cell (i := 4) hre rfl
    have r5 := blk_cell (i := 5) hre rfl
    exact bodyPost_ret (v := .tuple #[.agg #[.string ⟨#[]⟩, .string ⟨#[]⟩, .int .i64 0, .int .i64 0, .string ⟨#[]⟩, .slice none 0 0], .int .i64 E]) (by simp [results, Tryz.results26, go_sem, r0, r1, r2, r3, r4, r5]) rfl ⟨by rw [HX.out.1, HX.out.2.1, HX.out.2.2, HE.out], hrb⟩
end Go.Proofs.YtcbfhlnnfnpkdaaGreatDoor
