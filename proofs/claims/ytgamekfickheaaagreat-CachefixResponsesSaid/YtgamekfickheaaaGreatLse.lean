/- Lists (layer 7): what is closed in, seen octet by octet; the program's. · Lists (layer 7): the parts of a list, told one by one: the iterator's contract. · Lists (layer 7): Split, the program's. -/
import Derived.Test.YtgamekfickheaaaGreatLsb
import Derived.Test.YtgamekfickheaaaGreatRfl
import Derived.Shelf.Abstract
import Derived.Shelf.RegionOpen
import Derived.WalkKit
import Derived.OwnWalkIn
import Derived.TacticsInMore
import Derived.LoopNIn
import Derived.LoopIn
import Derived.Test.YtgamekfickheaaaGreatProg
import Derived.Test.YtgamekfickheaaaGreatKeeps
import Derived.Test.YtgamekfickheaaaGreatHde
namespace Go.Proofs.YtgamekfickheaaaGreat
open Go.RowKit
set_option linter.unusedVariables false
set_option linter.unusedSimpArgs false

/-- The three variables that the closure keeps. -/
structure Cl (b : Nat) (q p : Bool) (d : Nat) (w : World) : Prop where
  cq : w.heap[b]? = some (.cells #[.bool q] 4 (0, 0))
  cp : w.heap[b + 1]? = some (.cells #[.bool p] 4 (0, 0))
  cd : w.heap[b + 2]? = some (.cells #[.int .i64 d] 3 (0, 0))
def ClF (b k : Nat) : Prop := k < b ∨ b + 3 ≤ k
theorem Cl.setQ {b : Nat} {q p : Bool} {d : Nat} {w : World} (h : Cl b q p d w) (q' : Bool) : Cl b q' p d (w.setCell ⟨b, 0, none⟩ (.bool q')) :=
  ⟨blk_set h.cq _, blk_set_other h.cp (by omega) _, blk_set_other h.cd (by omega) _⟩
theorem Cl.setP {b : Nat} {q p : Bool} {d : Nat} {w : World} (h : Cl b q p d w) (p' : Bool) : Cl b q p' d (w.setCell ⟨b + 1, 0, none⟩ (.bool p')) :=
  ⟨blk_set_other h.cq (by omega) _, blk_set h.cp _, blk_set_other h.cd (by omega) _⟩
theorem Cl.setD {b : Nat} {q p : Bool} {d : Nat} {w : World} (h : Cl b q p d w) (n : Int) (d' : Nat) (hn : n = d') : Cl b q p d' (w.setCell ⟨b + 2, 0, none⟩ (.int .i64 n)) := by
  subst hn
  exact ⟨blk_set_other h.cq (by omega) _, blk_set_other h.cp (by omega) _, blk_set h.cd _⟩
theorem Cl.kept {b : Nat} {q p : Bool} {d : Nat} {w w' : World} (h : Cl b q p d w) (hk : ∀ k, b ≤ k → k ≤ b + 2 → w'.heap[k]? = w.heap[k]?) : Cl b q p d w' :=
  ⟨(hk _ (by omega) (by omega)).trans h.cq, (hk _ (by omega) (by omega)).trans h.cp, (hk _ (by omega) (by omega)).trans h.cd⟩
def SeeT (b : Nat) (q p : Bool) (d c : Nat) (w : World) (e : Ending) (w' : World) : Prop :=
  e = .returned (.bool (psIn (seeQ q p d c) (seeD q p d c))) ∧ Cl b (seeQ q p d c) (seeP q p d c) (seeD q p d c) w' ∧ Kpt (ClF b) w w'
theorem see_to {b : Nat} {q p : Bool} {d c : Nat} {w w' : World} {r q' p' : Bool} {d' : Nat} (h1 : seeQ q p d c = q') (h2 : seeP q p d c = p') (h3 : seeD q p d c = d') (hr : r = psIn q' d') (hc : Cl b q' p' d' w') (hk : Kpt (ClF b) w w') : SeeT b q p d c w (.returned (.bool r)) w' := by
  unfold SeeT
  rw [h1, h2, h3]
  exact ⟨by rw [hr], hc, hk⟩
set_option maxRecDepth 100000 in
set_option maxHeartbeats 4000000 in
theorem see_any (b : Nat) (q p : Bool) (d c : Nat) (w : World) (h : Cl b q p d w) (hd : d ≤ 1000000000) (hc : c ≤ 255) :
    Calls Tryz.prog 135 #[.int .u8 c, .pointer (some ⟨b + 1, 0, none⟩), .pointer (some ⟨b, 0, none⟩), .pointer (some ⟨b + 2, 0, none⟩)] w (SeeT b q p d c w) := by
  have H := Kp.mk h
  have c1 := blk_cell (i := 0) h.cq rfl
  have c2 := blk_cell (i := 0) h.cp rfl
  have c3 := blk_cell (i := 0) h.cd rfl
  have f1 := blk_free (i := 0) h.cq
  have f2 := blk_free (i := 0) h.cp
  have f3 := blk_free (i := 0) h.cd
  have K0 := Kp.mk (Kpt.refl (ClF b) w)
  clear h
  have hways : c = 92 ∨ c = 34 ∨ c = 40 ∨ c = 41 ∨ (c ≠ 92 ∧ c ≠ 34 ∧ c ≠ 40 ∧ c ≠ 41) := by omega
  cases p
  · rcases (show d = 0 ∨ (¬ d = 0 ∧ 0 < d) by omega) with rfl | ⟨hd1, hd0⟩
    all_goals
      cases q
      all_goals
        rcases hways with rfl | rfl | rfl | rfl | ⟨n1, n2, n3, n4⟩
        all_goals
          go_enter Tryz.func135, Tryz.ntmps135
          go_wp2_with fail
          go_ret
          first
            | exact see_to (by simp [seeQ, *]) (by simp [seeP, *]) (by simp [seeD, *]) (by simp [psIn, *]) H.out K0.out
            | exact see_to (by simp [seeQ, *]) (by simp [seeP, *]) (by simp [seeD, *]) (by simp [psIn, *]) (H.out.setP _) (K0.out.setCell _ _ (by unfold ClF; omega))
            | exact see_to (by simp [seeQ, *]) (by simp [seeP, *]) (by simp [seeD, *]) (by simp [psIn, *]) (H.out.setQ _) (K0.out.setCell _ _ (by unfold ClF; omega))
            | exact see_to (by simp [seeQ, *]) (by simp [seeP, *]) (by simp [seeD, *] <;> rfl) (by simp [psIn, *] <;> omega) (H.out.setD _ (d + 1) (by omega)) (K0.out.setCell _ _ (by unfold ClF; omega))
            | exact see_to (by simp [seeQ, *]) (by simp [seeP, *]) (by simp [seeD, *] <;> rfl) (by simp [psIn, *] <;> omega) (H.out.setD _ (d - 1) (by omega)) (K0.out.setCell _ _ (by unfold ClF; omega))
            | exact see_to (by simp [seeQ, *]) (by simp [seeP, *]) (by simp [seeD, *]) (by simp [psIn, *]) (H.out.setD _ 1 (by omega)) (K0.out.setCell _ _ (by unfold ClF; omega))
  · have hF : psIn q d = (q || decide ((0 : Int) < (d : Int))) := by unfold psIn; congr 1; simp
    have HF := Kp.mk hF
    clear hF hways
    go_enter Tryz.func135, Tryz.ntmps135
    cases q
    all_goals
      go_wp2_with fail
      go_ret
      refine see_to (by simp [seeQ]) (by simp [seeP]) (by simp [seeD]) ?_ (H.out.setP false) (K0.out.setCell _ _ (by unfold ClF; omega))
      first | rfl | (rw [HF.out]; simp) | simp [psIn]
set_option maxRecDepth 100000 in
set_option maxHeartbeats 1000000 in
theorem closing_any (w : World) : Calls Tryz.prog 112 #[] w fun e w' =>
    e = .returned (.func (.func 135) #[] #[.pointer (some ⟨w.heap.size + 1, 0, none⟩), .pointer (some ⟨w.heap.size, 0, none⟩), .pointer (some ⟨w.heap.size + 2, 0, none⟩)]) ∧
      Cl w.heap.size false false 0 w' ∧ w'.heap.size = w.heap.size + 3 ∧ Below w.heap.size w w' := by
  go_enter Tryz.func112, Tryz.ntmps112
  go_wp2_with fail
  go_ret
  refine ⟨rfl, ?_⟩
  have e1 : (w.alloc (.cells #[.bool false] 4)).heap.size = w.heap.size + 1 := World.size_alloc _ _
  have e2 : ((w.alloc (.cells #[.bool false] 4)).alloc (.cells #[.bool false] 4)).heap.size = w.heap.size + 2 := by rw [World.size_alloc, e1]
  have k1 := heap_alloc_new (w.alloc (.cells #[.bool false] 4)) (.cells #[.bool false] 4)
  have k2 := heap_alloc_new ((w.alloc (.cells #[.bool false] 4)).alloc (.cells #[.bool false] 4)) (.cells #[.int .i64 0] 3)
  rw [e1] at k1
  rw [e2] at k2
  exact ⟨⟨blk_alloc (blk_alloc (heap_alloc_new w _)), blk_alloc k1, k2⟩, by rw [World.size_alloc, e2], ((Below.refl _ _).alloc (Nat.le_refl _) _ |>.alloc (by rw [e1]; omega) _).alloc (by rw [e2]; omega) _⟩
end Go.Proofs.YtgamekfickheaaaGreat
namespace Go.Proofs.YtgamekfickheaaaGreat
open Go.RowKit Go.Shelf
set_option linter.unusedVariables false
set_option linter.unusedSimpArgs false
attribute [local go_sem] Oper.semAt_some

theorem partsL_pre (s : ByteArray) {i : Nat} (hi : i ≤ s.size) : ∃ r, (psAt s s.size).out = (psAt s i).out ++ r := by
  have key : ∀ k, ∃ r, (psAt s (i + k)).out = (psAt s i).out ++ r := by
    intro k
    induction k with
    | zero => exact ⟨[], by simp⟩
    | succ k ih =>
      obtain ⟨r, hr⟩ := ih
      rw [← Nat.add_assoc, psAt_succ]
      unfold psStep
      dsimp only
      split
      · exact ⟨r, hr⟩
      · exact ⟨r ++ [s.extract (psAt s (i + k)).fr (i + k)], by simp only; rw [hr, List.append_assoc]⟩
  obtain ⟨r, hr⟩ := key (s.size - i)
  rw [show i + (s.size - i) = s.size by omega] at hr
  exact ⟨r, hr⟩
def preL (s : ByteArray) (i : Nat) : List (ByteArray × Bool) := (psAt s i).out.map fun r => (trimB r, true)
theorem preL_pre (s : ByteArray) {i : Nat} (hi : i ≤ s.size) : preL s i <+: partsL s := by
  obtain ⟨r, hr⟩ := partsL_pre s hi
  unfold preL partsL
  rw [hr, List.map_append, List.append_assoc]
  exact List.prefix_append _ _
theorem preL_len (s : ByteArray) (i : Nat) : (preL s i).length ≤ i := by unfold preL; rw [List.length_map]; exact psAt_out s i
theorem preL_same {s : ByteArray} {i : Nat} (h : (psAt s (i + 1)).out = (psAt s i).out) : preL s (i + 1) = preL s i := by unfold preL; rw [h]
theorem preL_more {s : ByteArray} {i : Nat} {r : ByteArray} (h : (psAt s (i + 1)).out = (psAt s i).out ++ [r]) : preL s (i + 1) = preL s i ++ [(trimB r, true)] := by unfold preL; rw [h, List.map_append]; rfl
theorem partsL_end (s : ByteArray) : partsL s = preL s s.size ++ [(trimB (s.extract (psAt s s.size).fr s.size), !psIn (psAt s s.size).q (psAt s s.size).d)] := rfl
def pcs (x : ByteArray × Bool) : Array Value := #[.string x.1, .bool x.2]
set_option maxRecDepth 100000 in
set_option maxHeartbeats 2000000 in
theorem parts_seq (n l bs : Nat) (s : ByteArray) (hs : s.size ≤ 200000000) (Gx : Nat → Prop) (W : World) (hG : Gx bs) (hG2 : ∀ k, W.heap.size ≤ k → k < W.heap.size + 3 → Gx k) (hc : W.heap[bs]? = some (.cells #[.string s] 9 (0, 0))) (hbs : bs < W.heap.size) :
    SeqC Fence.wide n Tryz.prog 111 #[.pointer (some ⟨bs, 0, none⟩)] pcs Gx (W.heap.size + 3) (fun xs => xs = partsL s) (fun pre => pre <+: partsL s) (s.size + 1) l W := by
  intro J Jx hJ hJx hY h0
  have HJ := Kp.mk hJ
  have HY := Kp.mk hY
  have HC := Kp.mk hc
  have H0 := Kp.mk h0
  have HG := Kp.mk hG
  have HG2 := Kp.mk hG2
  have c0 := blk_cell (i := 0) hc rfl
  clear hJ hJx hY hc h0 hG hG2
  refine callsIn_of_wp Tryz.func111 rfl trivial ?_ rfl
  simp only [Tryz.ntmps111, List.size_toArray, List.length_cons, List.length_nil, Nat.reduceAdd, Nat.reduceSub, Array.replicate_succ, Array.replicate_zero, List.push_toArray, List.append_toArray, List.nil_append, List.cons_append]
  gi_wp2_with fail
  refine ⟨trivial, fun h => by simp [Fence.wide] at h, (callsIn_wide.2 (closing_any _)).mono ?_⟩
  rintro e w1 ⟨rfl, hcl, hsz1, hb1⟩
  have HCL := Kp.mk hcl
  have HC1 := Kp.mk ((hb1.block bs hbs).trans HC.out)
  have H1 := Kp.mk (HJ.out [] _ _ H0.out (Kpt.of hb1))
  have S1 := Kp.mk hsz1
  have c1 := blk_cell (i := 0) HC1.out rfl
  clear hcl hb1 hsz1 c0
  generalize hH : W.heap.size = H at *
  gi_wp2_with fail
  gi_loopw [4, 5, 10] (fun fr wi i wr => ∃ k : Nat, k ≤ s.size ∧ i = .int .i64 k ∧ fr = .int .i64 (psAt s k).fr ∧ wi = .bool (psIn (psAt s k).q (psAt s k).d) ∧ Cl H (psAt s k).q (psAt s k).p (psAt s k).d wr ∧ J (preL s k) wr ∧ wr.heap[bs]? = some (.cells #[.string s] 9 (0, 0)) ∧ H + 3 ≤ wr.heap.size) (fun _ _ i _ => s.size - (intOf i).toNat)
  case atStart => exact ⟨0, by omega, rfl, rfl, rfl, HCL.out, H1.out, HC1.out, by have := S1.out; omega⟩
  case round =>
    obtain ⟨k, hk, rfl, rfl, rfl, hcl, hj, hb, hz⟩ := hrel
    have HCL := Kp.mk hcl
    have H1 := Kp.mk hj
    have HC1 := Kp.mk hb
    have HZ := Kp.mk hz
    have c1 := blk_cell (i := 0) hb rfl
    clear hcl hj hb hz
    have hfr := psAt_fr s k
    have hdp := psAt_dep s k
    have HPL := Kp.mk (preL_pre s hk)
    have hpl := preL_len s k
    by_cases hlt : k < s.size
    · have q0 : (0 : Int) ≤ (k : Int) := by omega
      have q1 : (k : Int) < (s.size : Int) := by omega
      have hbt := bt_at s k hlt
      have hb9 := bt_lt s k
      have HPL1 := Kp.mk (preL_pre s (show k + 1 ≤ s.size by omega))
      have HMO := Kp.mk (fun r => preL_more (s := s) (i := k) (r := r))
      have HSA := Kp.mk (preL_same (s := s) (i := k))
      obtain ⟨x, hx⟩ : ∃ x, psAt s k = x := ⟨_, rfl⟩
      have HX := Kp.mk hx
      rw [hx] at hfr hdp HCL HMO HSA ⊢
      clear hx
      obtain ⟨q, p, d, fr, out⟩ := x
      have HGO := Kp.mk (ps_go HX.out)
      clear HX
      dsimp only at hfr hdp HCL HMO HSA ⊢
      generalize bt s k = c at *
      have hfk : (fr : Int) ≤ (k : Int) := by omega
      gi_wp2_with fail
      refine ⟨trivial, fun h => by simp [Fence.wide] at h, (callsIn_wide.2 (see_any H _ _ _ c _ HCL.out (by omega) (by omega))).mono ?_⟩
      rintro e w2 ⟨rfl, hcl2, hk2⟩
      have HCL2 := Kp.mk hcl2
      have HJ2 := Kp.mk (HJ.out _ _ _ H1.out (hk2.mono fun _ h => h))
      have HC2 := Kp.mk ((hk2.block bs (blk_lt HC1.out) (.inl hbs)).trans HC1.out)
      have HZ2 := Kp.mk (Nat.le_trans HZ.out hk2.size)
      have c2 := blk_cell (i := 0) HC2.out rfl
      clear hcl2 hk2
      generalize seeQ q p d c = q' at *
      generalize seeP q p d c = p' at *
      generalize seeD q p d c = d' at *
      cases hin : psIn q' d'
      · by_cases hc44 : c = 44
        · have HG3 := Kp.mk (show psAt s (k + 1) = ⟨q', p', d', k + 1, out ++ [s.extract fr k]⟩ by rw [HGO.out, if_neg (by rw [hin, hc44]; simp)])
          have HPM := Kp.mk (HMO.out (s.extract fr k) (by rw [HG3.out]))
          subst hc44
          gi_wp2_with fail
          refine ⟨trivial, fun h => by simp [Fence.wide] at h, (callsIn_wide.2 (oct_trim_any (s.extract fr k) _ (by unfold maxLen; simp; omega))).mono ?_⟩
          rintro e w3 ⟨rfl, hb3⟩
          have HCL3 := Kp.mk (HCL2.out.kept fun j h1 h2 => hb3.block j (by have := HZ2.out; omega))
          have HJ3 := Kp.mk (HJ.out _ _ _ HJ2.out (Kpt.of hb3))
          have HC3 := Kp.mk ((hb3.block bs (blk_lt HC2.out)).trans HC2.out)
          have HZ3 := Kp.mk (Nat.le_trans HZ2.out hb3.size)
          have c3 := blk_cell (i := 0) HC3.out rfl
          clear hb3 c2
          obtain ⟨fn, tmps, assign, body, hy, hR⟩ := HY.out (preL s k) (trimB (s.extract fr k), true) w3 HJ3.out (by omega) HZ3.out
          dsimp only [pcs] at hy
          gi_wp2_with fail
          refine ⟨fun h => by simp [Fence.wide] at h, hR.mono ?_⟩
          rintro e w4 (⟨rfl, hj4, hk4⟩ | ⟨rfl, hx4⟩)
          · have HCL4 := Kp.mk (HCL3.out.kept fun j h1 h2 => hk4.block j (by have := HZ3.out; omega) (HG2.out j h1 (by omega)))
            have HJ4 := Kp.mk hj4
            have HC4 := Kp.mk ((hk4.block bs (blk_lt HC3.out) HG.out).trans HC3.out)
            have HZ4 := Kp.mk (Nat.le_trans HZ3.out hk4.size)
            clear hk4 hj4 c3 hy hR
            gi_wp2_with fail
            go_roundw
            case rel => exact ⟨k + 1, by omega, by go_num, by rw [HG3.out]; rfl, by rw [HG3.out, ← hin], by rw [HG3.out]; exact HCL4.out, by rw [HPM.out]; exact HJ4.out, HC4.out, HZ4.out⟩
            case measure => simp [intOf]; omega
          · have HX4 := Kp.mk hx4
            clear hx4 hy hR
            gi_wp2_with fail
            refine bodyPost_ret (results_none rfl _ _ _) rfl ?_
            exact ⟨⟨_, rfl⟩, .inr ⟨_, by rw [← HPM.out]; exact HPL1.out, HX4.out⟩⟩
        · have HG3 := Kp.mk (show psAt s (k + 1) = ⟨q', p', d', fr, out⟩ by rw [HGO.out, if_pos (.inr hc44)])
          have HPM := Kp.mk (HSA.out (by rw [HG3.out]))
          have q6 : ((c : Int) != 44) = true := by rw [bne_iff_ne]; omega
          gi_wp2_with fail
          go_roundw
          case rel => exact ⟨k + 1, by omega, by go_num, by rw [HG3.out], by rw [HG3.out, ← hin], by rw [HG3.out]; exact HCL2.out, by rw [HPM.out]; exact HJ2.out, HC2.out, HZ2.out⟩
          case measure => simp [intOf]; omega
      · have HG3 := Kp.mk (show psAt s (k + 1) = ⟨q', p', d', fr, out⟩ by rw [HGO.out, if_pos (.inl hin)])
        have HPM := Kp.mk (HSA.out (by rw [HG3.out]))
        gi_wp2_with fail
        go_roundw
        case rel => exact ⟨k + 1, by omega, by go_num, by rw [HG3.out], by rw [HG3.out, ← hin], by rw [HG3.out]; exact HCL2.out, by rw [HPM.out]; exact HJ2.out, HC2.out, HZ2.out⟩
        case measure => simp [intOf]; omega
    · obtain rfl : k = s.size := by omega
      have HEN := Kp.mk (partsL_end s)
      obtain ⟨x, hx⟩ : ∃ x, psAt s s.size = x := ⟨_, rfl⟩
      rw [hx] at hfr hdp HCL HEN ⊢
      clear hx
      obtain ⟨q, p, d, fr, out⟩ := x
      dsimp only at hfr hdp HCL HEN ⊢
      have hfk : (fr : Int) ≤ (s.size : Int) := by omega
      generalize psIn q d = wi at *
      gi_wp2_with fail
      refine ⟨trivial, fun h => by simp [Fence.wide] at h, (callsIn_wide.2 (oct_trim_any (s.extract fr s.size) _ (by unfold maxLen; simp; omega))).mono ?_⟩
      rintro e w3 ⟨rfl, hb3⟩
      have HJ3 := Kp.mk (HJ.out _ _ _ H1.out (Kpt.of hb3))
      have HZ3 := Kp.mk (Nat.le_trans HZ.out hb3.size)
      clear hb3
      obtain ⟨fn, tmps, assign, body, hy, hR⟩ := HY.out (preL s s.size) (trimB (s.extract fr s.size), !wi) w3 HJ3.out (by omega) HZ3.out
      dsimp only [pcs] at hy
      gi_wp2_with fail
      refine ⟨fun h => by simp [Fence.wide] at h, hR.mono ?_⟩
      rintro e w4 (⟨rfl, hj4, hk4⟩ | ⟨rfl, hx4⟩)
      · have HJ4 := Kp.mk hj4
        clear hk4 hj4 hy hR
        gi_wp2_with fail
        go_end0
        exact ⟨⟨_, rfl⟩, .inl ⟨_, HEN.out.symm, HJ4.out⟩⟩
      · have HX4 := Kp.mk hx4
        clear hx4 hy hR
        gi_wp2_with fail
        go_end0
        exact ⟨⟨_, rfl⟩, .inr ⟨_, by rw [HEN.out]; exact List.prefix_refl _, HX4.out⟩⟩
end Go.Proofs.YtgamekfickheaaaGreat
namespace Go.Proofs.YtgamekfickheaaaGreat
open Go.RowKit Go.Shelf
set_option linter.unusedVariables false
set_option linter.unusedSimpArgs false
attribute [local go_sem] Oper.semAt_some

theorem splB_all {s : ByteArray} {xs : List (ByteArray × Bool)} (hx : xs = partsL s) (h : ∀ x ∈ xs, x.2 = true) : splB s = true ∧ splL s = someL (xs.map (·.1)) := by
  subst hx
  have h1 : splB s = true := h (trimB (s.extract (psAt s s.size).fr s.size), splB s) (by unfold partsL; exact List.mem_append_right _ (List.mem_singleton.2 rfl))
  exact ⟨h1, by unfold splL; rw [if_pos h1, partsL_fst]⟩
theorem splB_not {s : ByteArray} {pre : List (ByteArray × Bool)} (hp : pre <+: partsL s) (h : ∃ x ∈ pre, x.2 = false) : splB s = false ∧ splL s = [] := by
  obtain ⟨x, hx, h2⟩ := h
  have hm := hp.subset hx
  unfold partsL at hm
  rw [List.mem_append] at hm
  have h1 : splB s = false := by
    rcases hm with hm | hm
    · rw [List.mem_map] at hm
      obtain ⟨r, _, rfl⟩ := hm
      cases h2
    · rw [List.mem_singleton] at hm
      subst hm
      exact h2
  exact ⟨h1, by unfold splL; rw [h1]; rfl⟩
def RetSp (s : ByteArray) (w : World) (e : Ending) (w' : World) : Prop := ∃ v, e = .returned (.tuple #[v, .bool (splB s)]) ∧ w'.ownsRow w.heap.size 9 1 v (splL s).length (svH (splL s)) ∧ Below w.heap.size w w'
set_option maxRecDepth 100000 in
set_option maxHeartbeats 1000000 in
theorem parts_any (s : ByteArray) (w : World) : Calls Tryz.prog 87 #[.string s] w fun e w' => e = .returned (.func (.func 111) #[] #[.pointer (some ⟨w.heap.size, 0, none⟩)]) ∧ w' = w.alloc (.cells #[.string s] 9) := by
  go_enter Tryz.func87, Tryz.ntmps87
  go_wp2_with fail
  go_ret
  exact ⟨rfl, rfl⟩
/-- What holds between two rounds: the blocks of the results, the elements so far. -/
structure SpI (h : Nat) (w : World) (pre : List (ByteArray × Bool)) (W : World) : Prop where
  r0 : W.heap[h]? = some (.cells #[.slice none 0 0] 54 (0, 0))
  r1 : W.heap[h + 1]? = some (.cells #[.bool false] 4 (0, 0))
  el : ∃ v, W.heap[h + 2]? = some (.cells #[v] 54 (0, 0)) ∧ W.ownsRow (h + 9) 9 1 v (someL (pre.map (·.1))).length (svH (someL (pre.map (·.1))))
  ok : ∀ x ∈ pre, x.2 = true
  bel : Below h w W
structure SpX (h : Nat) (w : World) (c : Code) (pre : List (ByteArray × Bool)) (W : World) : Prop where
  r0 : W.heap[h]? = some (.cells #[.slice none 0 0] 54 (0, 0))
  r1 : W.heap[h + 1]? = some (.cells #[.bool false] 4 (0, 0))
  ret : c = .ret
  no : ∃ x ∈ pre, x.2 = false
  bel : Below h w W
theorem own_kpt {A A' : World} {lo hi : Nat} {e : TypeId} {sz n : Nat} {v : Value} {xs : List Value} (h : A.ownsRow hi e sz v n xs) (hk : Kpt (fun k => k < lo ∨ hi ≤ k) A A') : A'.ownsRow hi e sz v n xs := by
  refine ⟨h.1, ?_⟩
  rcases h.2 with h2 | ⟨g, cap, cur, rfl, hb, hg, rest⟩
  · exact .inl h2
  · exact .inr ⟨g, cap, cur, rfl, hb, kpt_at hk hg (.inr hb), rest⟩
theorem SpI.abd (h : Nat) (w : World) (pre : List (ByteArray × Bool)) : Abd (h + 4) (h + 9) (SpI h w pre) := fun A A' hi hk => by
  obtain ⟨r0, r1, ⟨v, r2, r3⟩, ok, bel⟩ := hi
  exact ⟨kpt_at hk r0 (.inl (by omega)), kpt_at hk r1 (.inl (by omega)), ⟨v, kpt_at hk r2 (.inl (by omega)), own_kpt r3 hk⟩, ok, ⟨hk.os.trans bel.os, hk.tape.trans bel.tape, hk.output.trans bel.output, Nat.le_trans bel.size hk.size, fun k hlt => (hk.block k (by have := blk_lt r0; omega) (.inl (by omega))).trans (bel.block k hlt)⟩⟩
theorem SpX.abd (h : Nat) (w : World) (c : Code) (pre : List (ByteArray × Bool)) : Abd (h + 4) (h + 9) (SpX h w c pre) := fun A A' hi hk => by
  obtain ⟨r0, r1, rt, no, bel⟩ := hi
  exact ⟨kpt_at hk r0 (.inl (by omega)), kpt_at hk r1 (.inl (by omega)), rt, no, ⟨hk.os.trans bel.os, hk.tape.trans bel.tape, hk.output.trans bel.output, Nat.le_trans bel.size hk.size, fun k hlt => (hk.block k (by have := blk_lt r0; omega) (.inl (by omega))).trans (bel.block k hlt)⟩⟩
theorem grown_blk {wr w' : World} {o : Obj} {row : Option Nat} {k : Nat} {ob : Obj} (hg : (wr.alloc o).grownBy w' row) (hk : wr.heap[k]? = some ob) (h : row ≠ some k) : w'.heap[k]? = some ob :=
  (hg.block k (by have := blk_lt hk; simp; omega) (fun e => h e.symm)).trans (blk_alloc hk)
theorem own_set {w : World} {B : Nat} {e : TypeId} {sz n : Nat} {v : Value} {xs : List Value} {b o : Nat} {u : Value} (h : w.ownsRow B e sz v n xs) (hb : v.ownBlock ≠ some b) : (w.setCell ⟨b, o, none⟩ u).ownsRow B e sz v n xs := by
  refine ⟨h.1, ?_⟩
  rcases h.2 with h2 | ⟨g, cap, cur, rfl, h3, hg, rest⟩
  · exact .inl h2
  · exact .inr ⟨g, cap, cur, rfl, h3, blk_set_other hg (fun e => hb (by rw [← e]; rfl)) _, rest⟩
theorem below_put {B r : Nat} {w W : World} {o o' : Obj} (h : Below B w W) (hr : B ≤ r) (ho : W.heap[r]? = some o) : Below B w (W.putObj r o') :=
  ⟨h.os, h.tape, h.output, by simp; exact h.size, fun k hk => (World.putObj_heap_other (by omega)).trans (h.block k hk)⟩
theorem own_put {W : World} {B r : Nat} {e : TypeId} {sz n : Nat} {v : Value} {xs : List Value} {o : Obj} (h : W.ownsRow B e sz v n xs) (hr : r < B) : (W.putObj r o).ownsRow B e sz v n xs := by
  refine ⟨h.1, ?_⟩
  rcases h.2 with h2 | ⟨g, cap, cur, rfl, h3, hg, rest⟩
  · exact .inl h2
  · exact .inr ⟨g, cap, cur, rfl, h3, (World.putObj_heap_other (by omega)).trans hg, rest⟩
theorem own_low {W : World} {B B' : Nat} {e : TypeId} {sz n : Nat} {v : Value} {xs : List Value} (h : W.ownsRow B e sz v n xs) (hb : B' ≤ B) : W.ownsRow B' e sz v n xs := by
  refine ⟨h.1, ?_⟩
  rcases h.2 with h2 | ⟨g, cap, cur, rfl, h3, hg, rest⟩
  · exact .inl h2
  · exact .inr ⟨g, cap, cur, rfl, by omega, hg, rest⟩
set_option maxRecDepth 100000 in
set_option maxHeartbeats 2000000 in
theorem split_any (s : ByteArray) (w : World) (hs : s.size ≤ 200000000) : Calls Tryz.prog 59 #[.string s] w (RetSp s w) := by
  refine (callsIn_wide (n := 5)).1 ?_
  refine callsIn_of_wp_marks Tryz.func59 rfl trivial ?_ rfl
  simp only [Tryz.ntmps59, List.size_toArray, List.length_cons, List.length_nil, Nat.reduceAdd, Nat.reduceSub, Array.replicate_succ, Array.replicate_zero, List.push_toArray, List.append_toArray, List.nil_append, List.cons_append]
  gi_wp2_with fail
  refine ⟨trivial, (callsIn_wide.2 (parts_any s _)).mono ?_⟩
  rintro e w1 ⟨rfl, rfl⟩
  gi_wp2_with fail
  simp only [Nat.add_assoc, Nat.reduceAdd]
  obtain ⟨w0, hw0⟩ : ∃ w0, ((((w.alloc (.cells #[.slice none 0 0] 54)).alloc (.cells #[.bool false] 4)).alloc (.cells #[.slice none 0 0] 54)).alloc (.cells #[.string s] 9)) = w0 := ⟨_, rfl⟩
  have e1 : (w.alloc (.cells #[.slice none 0 0] 54)).heap.size = w.heap.size + 1 := World.size_alloc _ _
  have e2 : ((w.alloc (.cells #[.slice none 0 0] 54)).alloc (.cells #[.bool false] 4)).heap.size = w.heap.size + 2 := by rw [World.size_alloc, e1]
  have e3 : (((w.alloc (.cells #[.slice none 0 0] 54)).alloc (.cells #[.bool false] 4)).alloc (.cells #[.slice none 0 0] 54)).heap.size = w.heap.size + 3 := by rw [World.size_alloc, e2]
  have k1 := heap_alloc_new (w.alloc (.cells #[.slice none 0 0] 54)) (.cells #[.bool false] 4)
  have k2 := heap_alloc_new ((w.alloc (.cells #[.slice none 0 0] 54)).alloc (.cells #[.bool false] 4)) (.cells #[.slice none 0 0] 54)
  have k3 := heap_alloc_new (((w.alloc (.cells #[.slice none 0 0] 54)).alloc (.cells #[.bool false] 4)).alloc (.cells #[.slice none 0 0] 54)) (.cells #[.string s] 9)
  rw [e1] at k1
  rw [e2] at k2
  rw [e3, hw0] at k3
  have S0 : w0.heap.size = w.heap.size + 4 := by rw [← hw0, World.size_alloc, e3]
  have HI := Kp.mk (show SpI w.heap.size w [] w0 by
    rw [← hw0]
    exact ⟨blk_alloc (blk_alloc (blk_alloc (heap_alloc_new w _))), blk_alloc (blk_alloc k1), ⟨_, blk_alloc k2, World.ownsRow_nil _ _ _ _⟩, by simp,
      (((Below.refl _ _).alloc (Nat.le_refl _) _ |>.alloc (by rw [e1]; omega) _).alloc (by rw [e2]; omega) _).alloc (by rw [e3]; omega) _⟩)
  rw [hw0]
  have HS0 := Kp.mk S0
  have HB3 := Kp.mk k3
  clear e1 e2 e3 k1 k2 k3 hw0 S0
  generalize hh : w.heap.size = h at *
  refine rf_law (n := 5) rfl (by omega) (gf := 111) (lb := #[.pointer (some ⟨h + 3, 0, none⟩)]) rfl trivial (enters_of Tryz.func111 (by kernel_rfl) rfl)
    (fun k => h + 3 ≤ k ∧ k < h + 9) (h + 9) (by rw [HS0.out]; omega) (fun j a b => ⟨by have := HS0.out; omega, by omega⟩)
    (S := fun xs => xs = partsL s) (Sp := fun pre => pre <+: partsL s) (N := s.size + 1) (encs := pcs) ?seq (fun x => rfl) (SpI h w) (SpX h w)
    (fun pre => by rw [HS0.out]; exact SpI.abd _ _ _) (fun c pre => by rw [HS0.out]; exact SpX.abd _ _ _ _) HI.out
    (fun x => { tmps := #[.string s, undef, .pointer (some ⟨h, 0, none⟩), .pointer (some ⟨h + 1, 0, none⟩), .pointer (some ⟨h + 2, 0, none⟩), .string x.1, .bool x.2, .string s, .func (.func 111) #[] #[.pointer (some ⟨h + 3, 0, none⟩)], .string x.1, .bool x.2, undef, undef, undef, undef, undef, undef, undef, undef, undef], defers := [] }) ?assign ?body ?done ?stop
  case seq =>
    intro W hW hb
    have e := parts_seq 4 (w0.heap.size + 1) (h + 3) s hs (fun j => (h + 3 ≤ j ∧ j < h + 9) ∧ j ≠ w0.heap.size + 1) W (by have := HS0.out; omega) (fun k a b => by have := HS0.out; omega) ((hb.block _ (blk_lt HB3.out)).trans HB3.out) (by have := blk_lt HB3.out; omega)
    rw [show W.heap.size + 3 = h + 9 by have := HS0.out; omega] at e
    exact e
  case assign =>
    rintro l ⟨x1, x2⟩ W K hK
    simp only [pcs]
    gi_wp2
    exact hK
  case body =>
    rintro l pre x W hI hlen hz
    obtain ⟨r0, r1, ⟨v, r2, r3⟩, ok, bel⟩ := hI
    obtain ⟨x1, x2⟩ := x
    obtain ⟨av, cv, rfl⟩ := own_lenH r3
    have R0 := Kp.mk r0
    have R1 := Kp.mk r1
    have R2 := Kp.mk r2
    have R3 := Kp.mk r3
    have OK := Kp.mk ok
    have BEL := Kp.mk bel
    have c0 := blk_cell (i := 0) r0 rfl
    have c1 := blk_cell (i := 0) r1 rfl
    have c2 := blk_cell (i := 0) r2 rfl
    have f0 := blk_free (i := 0) r0
    have f1 := blk_free (i := 0) r1
    have f2 := blk_free (i := 0) r2
    have K0 := Kp.mk (Kpt.refl (fun k => h + 3 ≤ k ∧ k < h + 9) W)
    clear r0 r1 r2 r3 ok bel
    cases x2
    · gi_wp2_with fail
      exact ⟨(K0.out.setCell _ _ (by omega)).setCell _ _ (by omega), blk_set_other (blk_set R0.out _) (by omega) _, blk_set (blk_set_other R1.out (by omega) _) _, rfl, ⟨_, List.mem_append_right _ (List.mem_singleton.2 rfl), rfl⟩, (BEL.out.setCell (by simp) _).setCell (by simp) _⟩
    · have hok : ∀ x ∈ pre ++ [(x1, true)], x.2 = true := fun x hx => by
        rw [List.mem_append, List.mem_singleton] at hx
        rcases hx with hx | rfl
        · exact OK.out x hx
        · rfl
      have HSN := Kp.mk (show someL ((pre ++ [(x1, true)]).map (·.1)) = someL (pre.map (·.1)) ++ (if x1.size ≠ 0 then [x1] else []) by rw [List.map_append, ← someL_snoc]; rfl)
      have hln := someL_len (pre.map (·.1))
      rw [List.length_map] at hln
      have HOK := Kp.mk hok
      clear hok
      by_cases hx : x1.size = 0
      · have he : x1 = ⟨#[]⟩ := (ByteArray.size_eq_zero_iff.1 hx).trans rfl
        subst he
        have HS2 := Kp.mk (HSN.out.trans (List.append_nil _))
        clear hx
        gi_wp2_with fail
        exact ⟨K0.out, R0.out, R1.out, ⟨_, R2.out, by rw [HS2.out]; exact R3.out⟩, HOK.out, BEL.out⟩
      · have HS2 := Kp.mk (HSN.out.trans (by rw [if_pos hx]))
        have hx2 : ¬ x1.toList = [] := fun e => hx (by rw [ba_size', ← ByteArray.toList_eq, e]; rfl)
        have hx3 : x1.toList.isEmpty = false := by rw [List.isEmpty_eq_false_iff]; exact hx2
        have hlen : ((someL (pre.map (·.1))).length + 1) * 16 ≤ 140737488355328 := by omega
        have hmx : (someL (pre.map (·.1))).length + 1 ≤ maxLen := by unfold maxLen; omega
        clear hx
        generalize hLL : someL (pre.map (·.1)) = L at *
        have HR := Kp.mk (fun k (e : (Value.slice av L.length cv).ownBlock = some k) => (R3.out.lt k e).1)
        clear hln hLL
        gi_wp2_with (gi_at_builtin; refine app_anyIn rfl _ _ _ _ rfl Tryz.underlying54 _ _ _ Tryz.infoSH rfl (by omega) (h + 9) _ _ _ rfl R3.out #[.string x1] rfl (fun u hu => by simp at hu; subst hu; rfl) _ rfl rfl hlen hmx hz ?_; intro g' cap' w' h1 h2 h3; have G1 := Kp.mk h1; have G2 := Kp.mk h2; have Q0 := Kp.mk (grown_blk h2 R0.out (fun e => by have := HR.out _ e; omega)); have Q1 := Kp.mk (grown_blk h2 R1.out (fun e => by have := HR.out _ e; omega)); have Q2 := Kp.mk (grown_blk h2 R2.out (fun e => by have := HR.out _ e; omega)); have d2 := blk_cell (i := 0) Q2.out rfl; have e2 := blk_free (i := 0) Q2.out; clear h1 h2 h3)
        have hg9 : h + 9 ≤ g' := (G1.out.lt g' rfl).1
        refine ⟨((K0.out.alloc _).grown G2.out (fun k hk => by have := HR.out _ hk; omega)).setCell _ _ (by omega), blk_set_other Q0.out (by omega) _, blk_set_other Q1.out (by omega) _, ⟨_, blk_set Q2.out _, ?_⟩, HOK.out, ?_⟩
        · rw [HS2.out, List.length_append, svH_snoc]
          exact own_set G1.out (fun e => absurd (show g' = h + 2 by simpa [Value.ownBlock] using e) (by omega))
        · exact ((BEL.out.alloc (by omega) _).grown G2.out (by simp; omega) (fun k hk => by have := HR.out _ hk; omega)).setCell (by simp) _
  case done =>
    rintro xs W hxs hI hK
    obtain ⟨r0, r1, ⟨v, r2, r3⟩, ok, bel⟩ := hI
    obtain ⟨hb, hl⟩ := splB_all hxs ok
    obtain ⟨av, cv, rfl⟩ := own_lenH r3
    have R0 := Kp.mk r0
    have R1 := Kp.mk r1
    have R2 := Kp.mk r2
    rw [← hl] at r3 r2
    have R3 := Kp.mk r3
    have HL := Kp.mk hl
    have HB := Kp.mk hb
    have BEL := Kp.mk bel
    have HK := Kp.mk hK
    have c0 := blk_cell (i := 0) r0 rfl
    have c1 := blk_cell (i := 0) r1 rfl
    have c2 := blk_cell (i := 0) r2 rfl
    have f0 := blk_free (i := 0) r0
    have f1 := blk_free (i := 0) r1
    have f2 := blk_free (i := 0) r2
    clear r0 r1 r2 r3 ok bel hb hl hK
    gi_wp2_with fail
    have D0 : ((W.setCell ⟨h, 0, none⟩ (.slice av (splL s).length cv)).setCell ⟨h + 1, 0, none⟩ (.bool true)).heap[w0.heap.size]? = some (.deferred (some [])) := blk_set_other (blk_set_other HK.out (by have := HS0.out; omega) _) (by have := HS0.out; omega) _
    refine ⟨by simp, .inl ⟨_, _, rfl, run_takeDeferred D0, ?_⟩⟩
    have Z0 := blk_set_other (i := 0) (blk_set (i := 0) R0.out (.slice av (splL s).length cv)) (show h ≠ h + 1 by omega) (.bool true)
    have Z1 := blk_set (i := 0) (blk_set_other (i := 0) R1.out (show h + 1 ≠ h by omega) (.slice av (splL s).length cv)) (.bool true)
    have BL := (BEL.out.setCell (p := ⟨h, 0, none⟩) (by simp) (.slice av (splL s).length cv)).setCell (p := ⟨h + 1, 0, none⟩) (by simp) (.bool true)
    have RW := own_set (b := h + 1) (o := 0) (u := .bool true) (own_set (b := h) (o := 0) (u := .slice av (splL s).length cv) R3.out (fun e => by have := (R3.out.lt _ e).1; omega)) (fun e => by have := (R3.out.lt _ e).1; omega)
    generalize ((W.setCell ⟨h, 0, none⟩ (.slice av (splL s).length cv)).setCell ⟨h + 1, 0, none⟩ (.bool true)) = W2 at *
    have hs0 := HS0.out
    have z0 := blk_cell (i := 0) ((World.putObj_heap_other (w := W2) (r := w0.heap.size) (o := .deferred none) (k := h) (by omega)).trans Z0) rfl
    have z1 := blk_cell (i := 0) ((World.putObj_heap_other (w := W2) (r := w0.heap.size) (o := .deferred none) (k := h + 1) (by omega)).trans Z1) rfl
    refine ⟨.tuple #[.slice av (splL s).length cv, .bool true], ?_, ?_⟩
    · rw [hs0] at z0 z1 ⊢
      simp [results, Tryz.results59, go_sem, z0, z1, Result.andThen]
    · refine ⟨_, by rw [HB.out], own_low (own_put RW (by omega)) (by omega), ?_⟩
      rw [hh]
      exact below_put BL (by omega) D0
  case stop =>
    rintro c pre W hp hX hK
    obtain ⟨r0, r1, rfl, no, bel⟩ := hX
    obtain ⟨hb, hl⟩ := splB_not hp no
    have R0 := Kp.mk r0
    have R1 := Kp.mk r1
    have HL := Kp.mk hl
    have HB := Kp.mk hb
    have BEL := Kp.mk bel
    have HK := Kp.mk hK
    have c0 := blk_cell (i := 0) r0 rfl
    have c1 := blk_cell (i := 0) r1 rfl
    clear r0 r1 no bel hb hl hK
    gi_wp2_with fail
    refine ⟨by simp, .inl ⟨_, _, rfl, run_takeDeferred HK.out, ?_⟩⟩
    have hs0 := HS0.out
    have z0 := blk_cell (i := 0) ((World.putObj_heap_other (w := W) (r := w0.heap.size) (o := .deferred none) (k := h) (by omega)).trans R0.out) rfl
    have z1 := blk_cell (i := 0) ((World.putObj_heap_other (w := W) (r := w0.heap.size) (o := .deferred none) (k := h + 1) (by omega)).trans R1.out) rfl
    refine ⟨.tuple #[.slice none 0 0, .bool false], ?_, ?_⟩
    · rw [hs0] at z0 z1 ⊢
      simp [results, Tryz.results59, go_sem, z0, z1, Result.andThen]
    · refine ⟨_, by rw [HB.out], by rw [HL.out]; exact World.ownsRow_nil _ _ _ _, ?_⟩
      rw [hh]
      exact below_put BEL.out (by omega) HK.out
end Go.Proofs.YtgamekfickheaaaGreat
