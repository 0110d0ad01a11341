/- Lists (layer 7): the parts of a list, told one by one: the iterator's contract. -/
import Derived.Test.YthlkflneldjnjaaLsc
import Derived.Test.YthlkflneldjnjaaRfl
import Derived.Shelf.Abstract
import Derived.Shelf.RegionOpen
import Derived.WalkKit
import Derived.OwnWalkIn
import Derived.TacticsInMore
import Derived.LoopNIn
import Derived.LoopIn
import Derived.Test.YthlkflneldjnjaaProg
import Derived.Test.YthlkflneldjnjaaTrim
namespace Go.Proofs.Ythlkflneldjnjaa
open Go.RowKit Go.Shelf
set_option linter.unusedVariables false
set_option linter.unusedSimpArgs false
attribute [local go_sem] Oper.semAt_some

theorem partsL_pre (s : ByteArray) {i : Nat} (hi : i ≤ s.size) : ∃ r, (psAt s s.size).out = (psAt s i).out ++ r := by
  have key : ∀ k, ∃ r, (psAt s (i + k)).out = (psAt s i).out ++ r := by
    intro k
    induction k with
    | zero => exact ⟨[], by simp⟩
    | succ k ih =>
      obtain ⟨r, hr⟩ := ih
      rw [← Nat.add_assoc, psAt_succ]
      unfold psStep
      dsimp only
      split
      · exact ⟨r, hr⟩
      · exact ⟨r ++ [s.extract (psAt s (i + k)).fr (i + k)], by simp only; rw [hr, List.append_assoc]⟩
  obtain ⟨r, hr⟩ := key (s.size - i)
  rw [show i + (s.size - i) = s.size by omega] at hr
  exact ⟨r, hr⟩
def preL (s : ByteArray) (i : Nat) : List (ByteArray × Bool) := (psAt s i).out.map fun r => (trimB r, true)
theorem preL_pre (s : ByteArray) {i : Nat} (hi : i ≤ s.size) : preL s i <+: partsL s := by
  obtain ⟨r, hr⟩ := partsL_pre s hi
  unfold preL partsL
  rw [hr, List.map_append, List.append_assoc]
  exact List.prefix_append _ _
theorem preL_len (s : ByteArray) (i : Nat) : (preL s i).length ≤ i := by unfold preL; rw [List.length_map]; exact psAt_out s i
theorem preL_same {s : ByteArray} {i : Nat} (h : (psAt s (i + 1)).out = (psAt s i).out) : preL s (i + 1) = preL s i := by unfold preL; rw [h]
theorem preL_more {s : ByteArray} {i : Nat} {r : ByteArray} (h : (psAt s (i + 1)).out = (psAt s i).out ++ [r]) : preL s (i + 1) = preL s i ++ [(trimB r, true)] := by unfold preL; rw [h, List.map_append]; rfl
theorem partsL_end (s : ByteArray) : partsL s = preL s s.size ++ [(trimB (s.extract (psAt s s.size).fr s.size), !psIn (psAt s s.size).q (psAt s s.size).d)] := rfl
def pcs (x : ByteArray × Bool) : Array Value := #[.string x.1, .bool x.2]
set_option maxRecDepth 100000 in
set_option maxHeartbeats 2000000 in
theorem parts_seq (n l bs : Nat) (s : ByteArray) (hs : s.size ≤ 200000000) (Gx : Nat → Prop) (W : World) (hG : Gx bs) (hG2 : ∀ k, W.heap.size ≤ k → k < W.heap.size + 3 → Gx k) (hc : W.heap[bs]? = some (.cells #[.string s] 9 (0, 0))) (hbs : bs < W.heap.size) :
    SeqC Fence.wide n Try.prog 120 #[.pointer (some ⟨bs, 0, none⟩)] pcs Gx (W.heap.size + 3) (fun xs => xs = partsL s) (fun pre => pre <+: partsL s) (s.size + 1) l W := by
  intro J Jx hJ hJx hY h0
  have HJ := Kp.mk hJ
  have HY := Kp.mk hY
  have HC := Kp.mk hc
  have H0 := Kp.mk h0
  have HG := Kp.mk hG
  have HG2 := Kp.mk hG2
  have c0 := blk_cell (i := 0) hc rfl
  clear hJ hJx hY hc h0 hG hG2
  refine callsIn_of_wp Try.func120 rfl trivial ?_ rfl
  simp only [Try.ntmps120, List.size_toArray, List.length_cons, List.length_nil, Nat.reduceAdd, Nat.reduceSub, Array.replicate_succ, Array.replicate_zero, List.push_toArray, List.append_toArray, List.nil_append, List.cons_append]
  gi_wp2_with fail
  refine ⟨trivial, fun h => by simp [Fence.wide] at h, (callsIn_wide.2 (closing_any _)).mono ?_⟩
  rintro e w1 ⟨rfl, hcl, hsz1, hb1⟩
  have HCL := Kp.mk hcl
  have HC1 := Kp.mk ((hb1.block bs hbs).trans HC.out)
  have H1 := Kp.mk (HJ.out [] _ _ H0.out (Kpt.of hb1))
  have S1 := Kp.mk hsz1
  have c1 := blk_cell (i := 0) HC1.out rfl
  clear hcl hb1 hsz1 c0
  generalize hH : W.heap.size = H at *
  gi_wp2_with fail
  gi_loopw [4, 5, 10] (fun fr wi i wr => ∃ k : Nat, k ≤ s.size ∧ i = .int .i64 k ∧ fr = .int .i64 (psAt s k).fr ∧ wi = .bool (psIn (psAt s k).q (psAt s k).d) ∧ Cl H (psAt s k).q (psAt s k).p (psAt s k).d wr ∧ J (preL s k) wr ∧ wr.heap[bs]? = some (.cells #[.string s] 9 (0, 0)) ∧ H + 3 ≤ wr.heap.size) (fun _ _ i _ => s.size - (intOf i).toNat)
  case atStart => exact ⟨0, by omega, rfl, rfl, rfl, HCL.out, H1.out, HC1.out, by have := S1.out; omega⟩
  case round =>
    obtain ⟨k, hk, rfl, rfl, rfl, hcl, hj, hb, hz⟩ := hrel
    have HCL := Kp.mk hcl
    have H1 := Kp.mk hj
    have HC1 := Kp.mk hb
    have HZ := Kp.mk hz
    have c1 := blk_cell (i := 0) hb rfl
    clear hcl hj hb hz
    have hfr := psAt_fr s k
    have hdp := psAt_dep s k
    have HPL := Kp.mk (preL_pre s hk)
    have hpl := preL_len s k
    by_cases hlt : k < s.size
    · have q0 : (0 : Int) ≤ (k : Int) := by omega
      have q1 : (k : Int) < (s.size : Int) := by omega
      have hbt := bt_at s k hlt
      have hb9 := bt_lt s k
      have HPL1 := Kp.mk (preL_pre s (show k + 1 ≤ s.size by omega))
      have HMO := Kp.mk (fun r => preL_more (s := s) (i := k) (r := r))
      have HSA := Kp.mk (preL_same (s := s) (i := k))
      obtain ⟨x, hx⟩ : ∃ x, psAt s k = x := ⟨_, rfl⟩
      have HX := Kp.mk hx
      rw [hx] at hfr hdp HCL HMO HSA ⊢
      clear hx
      obtain ⟨q, p, d, fr, out⟩ := x
      have HGO := Kp.mk (ps_go HX.out)
      clear HX
      dsimp only at hfr hdp HCL HMO HSA ⊢
      generalize bt s k = c at *
      have hfk : (fr : Int) ≤ (k : Int) := by omega
      gi_wp2_with fail
      refine ⟨trivial, fun h => by simp [Fence.wide] at h, (callsIn_wide.2 (see_any H _ _ _ c _ HCL.out (by omega) (by omega))).mono ?_⟩
      rintro e w2 ⟨rfl, hcl2, hk2⟩
      have HCL2 := Kp.mk hcl2
      have HJ2 := Kp.mk (HJ.out _ _ _ H1.out (hk2.mono fun _ h => h))
      have HC2 := Kp.mk ((hk2.block bs (blk_lt HC1.out) (.inl hbs)).trans HC1.out)
      have HZ2 := Kp.mk (Nat.le_trans HZ.out hk2.size)
      have c2 := blk_cell (i := 0) HC2.out rfl
      clear hcl2 hk2
      generalize seeQ q p d c = q' at *
      generalize seeP q p d c = p' at *
      generalize seeD q p d c = d' at *
      cases hin : psIn q' d'
      · by_cases hc44 : c = 44
        · have HG3 := Kp.mk (show psAt s (k + 1) = ⟨q', p', d', k + 1, out ++ [s.extract fr k]⟩ by rw [HGO.out, if_neg (by rw [hin, hc44]; simp)])
          have HPM := Kp.mk (HMO.out (s.extract fr k) (by rw [HG3.out]))
          subst hc44
          gi_wp2_with fail
          refine ⟨trivial, fun h => by simp [Fence.wide] at h, (callsIn_wide.2 (oct_trim_any (s.extract fr k) _ (by unfold maxLen; simp; omega))).mono ?_⟩
          rintro e w3 ⟨rfl, hb3⟩
          have HCL3 := Kp.mk (HCL2.out.kept fun j h1 h2 => hb3.block j (by have := HZ2.out; omega))
          have HJ3 := Kp.mk (HJ.out _ _ _ HJ2.out (Kpt.of hb3))
          have HC3 := Kp.mk ((hb3.block bs (blk_lt HC2.out)).trans HC2.out)
          have HZ3 := Kp.mk (Nat.le_trans HZ2.out hb3.size)
          have c3 := blk_cell (i := 0) HC3.out rfl
          clear hb3 c2
          obtain ⟨fn, tmps, assign, body, hy, hR⟩ := HY.out (preL s k) (trimB (s.extract fr k), true) w3 HJ3.out (by omega) HZ3.out
          dsimp only [pcs] at hy
          gi_wp2_with fail
          refine ⟨fun h => by simp [Fence.wide] at h, hR.mono ?_⟩
          rintro e w4 (⟨rfl, hj4, hk4⟩ | ⟨rfl, hx4⟩)
          · have HCL4 := Kp.mk (HCL3.out.kept fun j h1 h2 => hk4.block j (by have := HZ3.out; omega) (HG2.out j h1 (by omega)))
            have HJ4 := Kp.mk hj4
            have HC4 := Kp.mk ((hk4.block bs (blk_lt HC3.out) HG.out).trans HC3.out)
            have HZ4 := Kp.mk (Nat.le_trans HZ3.out hk4.size)
            clear hk4 hj4 c3 hy hR
            gi_wp2_with fail
            go_roundw
            case rel => exact ⟨k + 1, by omega, by go_num, by rw [HG3.out]; rfl, by rw [HG3.out, ← hin], by rw [HG3.out]; exact HCL4.out, by rw [HPM.out]; exact HJ4.out, HC4.out, HZ4.out⟩
            case measure => simp [intOf]; omega
          · have HX4 := Kp.mk hx4
            clear hx4 hy hR
            gi_wp2_with fail
            refine bodyPost_ret (results_none rfl _ _ _) rfl ?_
            exact ⟨⟨_, rfl⟩, .inr ⟨_, by rw [← HPM.out]; exact HPL1.out, HX4.out⟩⟩
        · have HG3 := Kp.mk (show psAt s (k + 1) = ⟨q', p', d', fr, out⟩ by rw [HGO.out, if_pos (.inr hc44)])
          have HPM := Kp.mk (HSA.out (by rw [HG3.out]))
          have q6 : ((c : Int) != 44) = true := by rw [bne_iff_ne]; omega
          gi_wp2_with fail
          go_roundw
          case rel => exact ⟨k + 1, by omega, by go_num, by rw [HG3.out], by rw [HG3.out, ← hin], by rw [HG3.out]; exact HCL2.out, by rw [HPM.out]; exact HJ2.out, HC2.out, HZ2.out⟩
          case measure => simp [intOf]; omega
      · have HG3 := Kp.mk (show psAt s (k + 1) = ⟨q', p', d', fr, out⟩ by rw [HGO.out, if_pos (.inl hin)])
        have HPM := Kp.mk (HSA.out (by rw [HG3.out]))
        gi_wp2_with fail
        go_roundw
        case rel => exact ⟨k + 1, by omega, by go_num, by rw [HG3.out], by rw [HG3.out, ← hin], by rw [HG3.out]; exact HCL2.out, by rw [HPM.out]; exact HJ2.out, HC2.out, HZ2.out⟩
        case measure => simp [intOf]; omega
    · obtain rfl : k = s.size := by omega
      have HEN := Kp.mk (partsL_end s)
      obtain ⟨x, hx⟩ : ∃ x, psAt s s.size = x := ⟨_, rfl⟩
      rw [hx] at hfr hdp HCL HEN ⊢
      clear hx
      obtain ⟨q, p, d, fr, out⟩ := x
      dsimp only at hfr hdp HCL HEN ⊢
      have hfk : (fr : Int) ≤ (s.size : Int) := by omega
      generalize psIn q d = wi at *
      gi_wp2_with fail
      refine ⟨trivial, fun h => by simp [Fence.wide] at h, (callsIn_wide.2 (oct_trim_any (s.extract fr s.size) _ (by unfold maxLen; simp; omega))).mono ?_⟩
      rintro e w3 ⟨rfl, hb3⟩
      have HJ3 := Kp.mk (HJ.out _ _ _ H1.out (Kpt.of hb3))
      have HZ3 := Kp.mk (Nat.le_trans HZ.out hb3.size)
      clear hb3
      obtain ⟨fn, tmps, assign, body, hy, hR⟩ := HY.out (preL s s.size) (trimB (s.extract fr s.size), !wi) w3 HJ3.out (by omega) HZ3.out
      dsimp only [pcs] at hy
      gi_wp2_with fail
      refine ⟨fun h => by simp [Fence.wide] at h, hR.mono ?_⟩
      rintro e w4 (⟨rfl, hj4, hk4⟩ | ⟨rfl, hx4⟩)
      · have HJ4 := Kp.mk hj4
        clear hk4 hj4 hy hR
        gi_wp2_with fail
        go_end0
        exact ⟨⟨_, rfl⟩, .inl ⟨_, HEN.out.symm, HJ4.out⟩⟩
      · have HX4 := Kp.mk hx4
        clear hx4 hy hR
        gi_wp2_with fail
        go_end0
        exact ⟨⟨_, rfl⟩, .inr ⟨_, by rw [HEN.out]; exact List.prefix_refl _, HX4.out⟩⟩
end Go.Proofs.Ythlkflneldjnjaa
