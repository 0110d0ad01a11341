/- Lengths (layer 18): the parts told one by one: the iterator's contract; Of, the program's. -/
import Derived.Test.YtkfpioadimkogaaGreatDoorLeb
import Derived.Test.YtkfpioadimkogaaGreatDoorRfp
import Derived.Test.YtkfpioadimkogaaGreatDoorShh
import Derived.OwnWalkIn
import Derived.TacticsInMore
import Derived.LoopNIn
import Derived.LoopIn
import Derived.RegionTactic
namespace Go.Proofs.YtkfpioadimkogaaGreatDoor
open Go.RowKit Go.Shelf
set_option linter.unusedVariables false
set_option linter.unusedSimpArgs false
attribute [local go_sem] Oper.semAt_some

theorem split18_any (s : ByteArray) (w : World) (hs : s.size ≤ 100000) :
    Calls Tryz.prog 181 #[.string s, .string ⟨#[44]⟩] w fun e w' => e = .returned (.slice (some ⟨w.heap.size, 0, none⟩) (cmK s).length (cmK s).length) ∧ w' = w.alloc (.cells ((cmK s).map Value.string).toArray 9) := by
  have g := split_one Tryz.lays146 (by kernel_rfl) s 44 w (by omega)
  have e := split_cmK s
  unfold cm44 at e
  rw [e] at g
  have hl : (cmK s).length = Lib.countB s ⟨#[44]⟩ + 1 := by rw [← e]; exact Lib.splitB_all ⟨#[44]⟩ (Nat.le_refl 1) 0 _ s rfl
  rw [← hl] at g
  exact g
theorem lparts_any (v : Value) (w : World) (hv : ∃ a n c, v = .slice a n c) : Calls Tryz.prog 153 #[v] w fun e w' => e = .returned (.func (.func 180) #[] #[.pointer (some ⟨w.heap.size, 0, none⟩)]) ∧ w' = w.alloc (.cells #[v] 55) := by
  obtain ⟨a, n, c, rfl⟩ := hv
  go_enter Tryz.func153, Tryz.ntmps153
  go_wp2_with fail
  go_ret
  exact ⟨rfl, rfl⟩
def lcs (x : ByteArray) : Array Value := #[.string x]
set_option maxRecDepth 100000 in
set_option maxHeartbeats 4000000 in
theorem lparts_seq (n l bs : Nat) (v : Value) (V : List ByteArray) (Gx : Nat → Prop) (W : World) (hv : RdS W v V) (hz : ∀ s ∈ V, s.size ≤ 100000) (hvl : V.length ≤ 100000) (hG : Gx bs) (hGv : ∀ k, v.ownBlock = some k → Gx k) (hG2 : ∀ k, W.heap.size ≤ k → Gx k)
    (hc : W.heap[bs]? = some (.cells #[v] 55 (0, 0))) (hbs : bs < W.heap.size) :
    SeqP Fence.wide n Tryz.prog 180 #[.pointer (some ⟨bs, 0, none⟩)] lcs Gx W.heap.size (fun xs => xs = lnV V) (fun pre => pre <+: lnV V) ((lnV V).length + 1) (fun x => x.size ≤ 100000) l W := by
  intro J Jx hJ hJx hY h0
  have HJ := Kp.mk hJ
  have HY := Kp.mk hY
  have H0 := Kp.mk h0
  have HGV := Kp.mk hGv
  have HG2 := Kp.mk hG2
  have HV := Kp.mk hv
  have HZ := Kp.mk hz
  have c0 := blk_cell (i := 0) hc rfl
  obtain ⟨av, cv, rfl, -, -, -⟩ := hv
  clear hJ hJx hY hc h0 hG hGv hG2 hz
  refine callsIn_of_wp Tryz.func180 rfl trivial ?_ rfl
  simp only [Tryz.ntmps180, List.size_toArray, List.length_cons, List.length_nil, Nat.reduceAdd, Nat.reduceSub, Array.replicate_succ, Array.replicate_zero, List.push_toArray, List.append_toArray, List.nil_append, List.cons_append]
  generalize hH : W.heap.size = H at *
  gi_wp2_with fail
  gi_loopw [9] (fun i wr => ∃ k : Nat, k ≤ V.length ∧ i = .int .i64 k ∧ J (lnP V k) wr ∧ RdS wr (.slice av V.length cv) V ∧ H ≤ wr.heap.size) (fun i _ => V.length - (intOf i).toNat)
  case atStart => exact ⟨0, by omega, rfl, H0.out, HV.out, by omega⟩
  case round =>
    obtain ⟨k, hk, rfl, hj, hr, hz⟩ := hrel
    have H1 := Kp.mk hj
    have HR := Kp.mk hr
    have HSZ := Kp.mk hz
    clear hj hr hz
    by_cases hlt : k < V.length
    · obtain ⟨g, o, rfl, hgl, dd⟩ := rds_cells HR.out (by omega)
      have c1 := dd k hlt
      have m1 := HZ.out V[k] (List.getElem_mem hlt)
      have q0 : (0 : Int) ≤ (k : Int) := by omega
      have q1 : (k : Int) < (V.length : Int) := by omega
      have HST := Kp.mk (lnP_step hlt)
      have HIN := Kp.mk (fun j => lnP_in (j := j) hlt)
      clear dd c0
      generalize V[k] = s at *
      have SPL := Kp.mk (fun w => split18_any s w m1)
      have hcl := cmK_len s
      have HCM := Kp.mk (fun x (h : x ∈ cmK s) => cmK_mem h)
      have HLK := Kp.mk (show lnK s = trM (cmK s) from rfl)
      rw [HLK.out] at HST HIN
      clear HLK
      generalize cmK s = C at *
      generalize lnP V k = P at *
      gi_wp2_with fail
      refine ⟨trivial, fun h => by simp [Fence.wide] at h, (callsIn_wide.2 (SPL.out _)).mono ?_⟩
      rintro e w2 ⟨rfl, rfl⟩
      have NB := Kp.mk (heap_alloc_new wr (.cells (C.map Value.string).toArray 9))
      have BA := Kp.mk ((Below.refl wr.heap.size wr).alloc (Nat.le_refl _) (.cells (C.map Value.string).toArray 9))
      have H2 := Kp.mk (HJ.out _ _ _ H1.out (Kpt.of BA.out))
      have HR2 := Kp.mk (HR.out.below BA.out)
      have HS2 := Kp.mk (show H ≤ (wr.alloc (.cells (C.map Value.string).toArray 9)).heap.size by have := HSZ.out; have := BA.out.size; omega)
      have hsz := HSZ.out
      clear c1
      generalize hb : wr.heap.size = b at *
      generalize hw2 : wr.alloc (.cells (C.map Value.string).toArray 9) = w2 at *
      gi_wp2_with fail
      gi_loopw [16] (fun i wq => ∃ j : Nat, j ≤ C.length ∧ i = .int .i64 j ∧ J (P ++ (trM C).take j) wq ∧ RdS wq (.slice (some ⟨g, o, none⟩) V.length cv) V ∧ wq.heap[b]? = some (.cells (C.map Value.string).toArray 9 (0, 0)) ∧ H ≤ wq.heap.size) (fun i _ => C.length - (intOf i).toNat)
      case atStart => exact ⟨0, by omega, rfl, by rw [List.take_zero, List.append_nil]; exact H2.out, HR2.out, NB.out, HS2.out⟩
      case round =>
        obtain ⟨j, hj, rfl, hjj, hr, hbk, hz⟩ := hrel
        have H3 := Kp.mk hjj
        have HR3 := Kp.mk hr
        have HS3 := Kp.mk hz
        have HB3 := Kp.mk hbk
        clear hjj hr hz hbk
        by_cases hjl : j < C.length
        · have cj : wr.cell? ⟨b, 0 + j, none⟩ = some (.string C[j]) := by
            rw [Nat.zero_add]
            exact blk_cell HB3.out (by simp [hjl])
          rw [Nat.zero_add] at cj
          have mj := HCM.out C[j] (List.getElem_mem hjl)
          have q2 : (0 : Int) ≤ (j : Int) := by omega
          have q3 : (j : Int) < (C.length : Int) := by omega
          have HTK := Kp.mk (trM_take hjl)
          have HP1 := Kp.mk (HIN.out (j + 1))
          generalize C[j] = x at *
          have hple : (P ++ (trM C).take j).length < (lnV V).length + 1 := by
            have := (HIN.out j).length_le
            omega
          gi_wp2_with fail
          refine ⟨trivial, fun h => by simp [Fence.wide] at h, (callsIn_wide.2 (oct_trim_any x _ (by unfold maxLen; omega))).mono ?_⟩
          rintro e w3 ⟨rfl, hb3⟩
          have H4 := Kp.mk (HJ.out _ _ _ H3.out (Kpt.of hb3))
          have HR4 := Kp.mk (HR3.out.below hb3)
          have HB4 := Kp.mk ((hb3.block b (blk_lt HB3.out)).trans HB3.out)
          have HS4 := Kp.mk (Nat.le_trans HS3.out hb3.size)
          clear hb3 cj
          obtain ⟨fn, tmps, assign, body, hy, hR⟩ := HY.out (P ++ (trM C).take j) (trimB x) w3 (by have := trimB_size x; omega) H4.out hple HS4.out
          rw [List.append_assoc, ← HTK.out] at hR
          dsimp only [lcs] at hy
          gi_wp2_with fail
          refine ⟨fun h => by simp [Fence.wide] at h, hR.mono ?_⟩
          rintro e w4 (⟨rfl, hj4, hk4⟩ | ⟨rfl, hx4⟩)
          · have H5 := Kp.mk hj4
            have HR5 := Kp.mk (HR4.out.stays hk4.size fun q hq hv => hk4.block q hq (HGV.out q hv))
            have HB5 := Kp.mk ((hk4.block b (blk_lt HB4.out) (HG2.out b (by omega))).trans HB4.out)
            have HS5 := Kp.mk (Nat.le_trans HS4.out hk4.size)
            clear hk4 hj4 hy hR
            gi_wp2_with fail
            go_roundw
            case rel => exact ⟨j + 1, by omega, by go_num, H5.out, HR5.out, HB5.out, HS5.out⟩
            case measure => simp [intOf]; omega
          · have HX4 := Kp.mk hx4
            clear hx4 hy hR
            gi_wp2_with fail
            refine bodyPost_ret (results_none rfl _ _ _) rfl ?_
            exact ⟨⟨_, rfl⟩, .inr ⟨_, HP1.out, HX4.out⟩⟩
        · have e9 : (trM C).take j = trM C := List.take_of_length_le (by rw [trM_len]; omega)
          have H4 := Kp.mk (show J (P ++ trM C) wr by have := H3.out; rwa [e9] at this)
          gi_wp2_with fail
          go_roundw
          case rel => exact ⟨k + 1, by omega, by go_num, by rw [HST.out]; exact H4.out, HR3.out, HS3.out⟩
          case measure => simp [intOf]; omega
    · have HK := Kp.mk (lnV_all (V := V) (k := k) (by omega))
      gi_wp2_with fail
      go_end0
      exact ⟨⟨_, rfl⟩, .inl ⟨_, HK.out, H1.out⟩⟩
end Go.Proofs.YtkfpioadimkogaaGreatDoor
