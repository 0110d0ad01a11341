/- How lists of lines differ (layer 51): the document's Lines (bin/mkdie.py). -/
import Derived.Test.YtnpolkpofaamlaaDid
import Derived.Deep.QuietTactic
namespace Go.Proofs.Ytnpolkpofaamlaa
open Go.RowKit
set_option linter.unusedVariables false
set_option linter.unusedSimpArgs false

theorem slc_one {w : World} {g o n c : Nat} {x : ByteArray} {L : Ln} (h : RdS w (.slice (some ⟨g, o, none⟩) n c) (x :: L)) : RdS w (.slice (if c = 1 then some ⟨g, o, none⟩ else some ⟨g, o + 1, none⟩) L.length (c - 1)) L := by
  obtain ⟨a, c', e, h2, h3, h4⟩ := h
  cases e
  obtain ⟨g', o', e', hg, hc⟩ := h4 (by simp)
  cases e'
  have hl : (x :: L).length = L.length + 1 := rfl
  rw [hl] at h2
  by_cases h1 : c = 1
  · have h0 : L = [] := List.eq_nil_of_length_eq_zero (by omega)
    subst h0
    exact RdL.nil (by omega)
  · rw [if_neg h1]
    refine ⟨_, _, rfl, by omega, by omega, fun _ => ⟨g, o + 1, rfl, hg, fun j hj i hi => ?_⟩⟩
    have := hc (j + 1) (by simp; omega) i hi
    rw [List.getElem_cons_succ] at this
    rw [← this]
    congr 2
    omega
theorem head_cell {w : World} {a : Option Addr} {n c : Nat} {x : ByteArray} {L : Ln} (h : RdS w (.slice a n c) (x :: L)) : ∃ g o, a = some ⟨g, o, none⟩ ∧ g < w.heap.size ∧ w.cell? ⟨g, o, none⟩ = some (.string x) := by
  obtain ⟨g, o, e, hg, hc⟩ := rds_cells h (by simp)
  exact ⟨g, o, e, hg, by have := hc 0 (by simp); simpa using this⟩
theorem Try.infoDq : (Try.prog.info? 100).map (fun i => (i.zero, i.size, i.bytes)) = some (some (.agg #[.int .i64 0, .string ByteArray.empty]), 2, 24) := by kernel_rfl
def RetDq (l : List Dr) (w : World) (e : Ending) (w' : World) : Prop := ∃ v, e = .returned v ∧ w'.ownsRow w.heap.size 100 2 v l.length (drL l) ∧ Below w.heap.size w w'
def lenV51 : Value → Nat
  | .slice _ n _ => n
  | _ => 0
theorem own_dq {w : World} {B : Nat} {e : TypeId} {v : Value} {l : List Dr} {s : Int} {x : ByteArray} (h : w.ownsRow B e 2 v (l.length + 1) (drL l ++ #[Value.int .i64 s, .string x].toList)) : w.ownsRow B e 2 v (l ++ [(s, x)]).length (drL (l ++ [(s, x)])) := by
  rw [drL_snoc, List.length_append]
  exact h
theorem gdrewQ (B : Nat) (w : World) (n : Nat) : Below B w (w.drewN n) := ⟨rfl, rfl, rfl, Nat.le_refl _, fun _ _ => rfl⟩
/-- What holds at each turn. -/
structure DrI (a b A B : Ln) (out : List Dr) (av bv ov : Value) (w wr : World) : Prop where
  ra : RdS w av A
  rb : RdS w bv B
  o : wr.ownsRow w.heap.size 100 2 ov out.length (drL out)
  e : out ++ dfL A B = dfL a b
  l : out.length + A.length + B.length ≤ 200 ∧ A.length ≤ 100 ∧ B.length ≤ 100
  bl : Below w.heap.size w wr
theorem DrI.step {a b A B A' B' : Ln} {out : List Dr} {av bv ov : Value} {w wr : World} {r : Dr} (h : DrI a b A B out av bv ov w wr) (he : dfL A B = r :: dfL A' B') : (out ++ [r]) ++ dfL A' B' = dfL a b := by
  rw [List.append_assoc, List.singleton_append, ← he]
  exact h.e
set_option maxRecDepth 100000 in
set_option maxHeartbeats 600000 in
theorem rlines_any (va vb : Value) (a b : Ln) (w : World) (ha : RdS w va a) (hb : RdS w vb b) (hla : a.length ≤ 100) (hlb : b.length ≤ 100) :
    Calls Try.prog 59 #[va, vb] w (RetDq (dfL a b) w) := by
  have HI0 := Kp.mk (show DrI a b a b [] va vb (.slice (some ⟨w.heap.size, 0, none⟩) 0 0) w (w.alloc (.cells #[] 100)) from
    ⟨ha, hb, World.ownsRow_lit (base := w.heap.size) (e := 100) (size := 2) w #[] 0 (Nat.le_refl _) (by unfold maxLen; omega) rfl, rfl, by simp; omega, (Below.refl _ _).alloc (Nat.le_refl _) _⟩)
  obtain ⟨aa, ca, rfl, _, _, -⟩ := ha
  obtain ⟨ab, cb, rfl, _, _, -⟩ := hb
  generalize hn : a.length = n at *
  generalize hm : b.length = m at *
  clear hn hm
  go_enter Try.func59, Try.ntmps59
  go_wp2_with fail
  go_loopw [0, 1, 5] (fun av bv ov wr => ∃ (A B : Ln) (out : List Dr), DrI a b A B out av bv ov w wr) (fun av bv _ _ => lenV51 av + lenV51 bv)
  case atStart => exact ⟨a, b, [], HI0.out⟩
  case round =>
    obtain ⟨A, B, out, hI⟩ := hrel
    have HI := Kp.mk hI
    clear hI HI0
    have HBO := Kp.mk HI.out.bl
    have HSZ := Kp.mk HI.out.bl.size
    have hlen0 : (out.length + 1) * 24 ≤ 140737488355328 := by have := HI.out.l; omega
    have hmx0 : out.length + 1 ≤ maxLen := by have := HI.out.l; unfold maxLen; omega
    obtain ⟨ov, oc, rfl⟩ := own_lenH HI.out.o
    have HODQ := Kp.mk (fun q => own_kd (w' := wr.drewN q) HI.out.o fun g _ _ => rfl)
    rcases A with _ | ⟨x, A⟩
    · obtain ⟨pa, pc, rfl, _, _, -⟩ := HI.out.ra
      rcases B with _ | ⟨y, B⟩
      · obtain ⟨qa, qc, rfl, _, _, -⟩ := HI.out.rb
        have hl : out = dfL a b := by
          have := HI.out.e
          rw [dfL_nil, List.append_nil] at this
          exact this
        go_wp2_with fail
        go_ret
        refine ⟨_, rfl, ?_, HI.out.bl⟩
        rw [← hl]
        exact HI.out.o
      · have HE := Kp.mk (dfL_new y B)
        have q9 : ((B.length : Int) + 1 == 0) = false := by rw [beq_eq_false_iff_ne]; omega
        obtain ⟨bb, bc, hfb, _, _, -⟩ := HI.out.rb
        subst hfb
        obtain ⟨gb, ob, rfl, hgb, cb⟩ := head_cell (HI.out.rb.below HI.out.bl)
        have HSB := Kp.mk (slc_one HI.out.rb)
        go_upto_region 3 with fail
        go_quiet (fail)
        go_upto_region 7 with fail
        refine region_in (fun W => Below wr.heap.size wr W) (by kernel_rfl) (by kernel_rfl) ⟨rfl, rfl, rfl, Nat.le_refl _, fun _ _ => rfl⟩ ?_
        haveI hne : Nonempty (InS (fun W => Below wr.heap.size wr W)) := ⟨⟨wr, Below.refl _ _⟩⟩
        repeat (go_big_quiet_step (fail))
        refine wpQuiet_nil ?_
        intro _ hw'
        obtain ⟨wq, rfl⟩ := hw'
        have HWQ := Kp.mk wq.ok
        have HODQ := Kp.mk (own_kd (w' := wq.w) HI.out.o fun g _ hg => HWQ.out.block g hg)
        have HSQ := Kp.mk (Nat.le_trans HSZ.out HWQ.out.size)
        have HBQ := Kp.mk (HI.out.bl.trans (HWQ.out.mono HSZ.out))
        have cqb := (HWQ.out.cell (p := ⟨gb, ob, none⟩) hgb).trans cb
        go_wp2_with (at_builtin; refine app_any rfl _ _ _ _ rfl Try.underlying93 _ _ _ Try.infoDq rfl (by omega) w.heap.size _ _ _ rfl HODQ.out #[.int .i64 2, .string y] rfl (fun u hu => by simp at hu; rcases hu with rfl | rfl <;> rfl) _ rfl rfl hlen0 hmx0 HSQ.out ?_; intro g' cap' w' h1 h2 h3; have G1 := Kp.mk h1; have G2 := Kp.mk (grown_bel HODQ.out HSQ.out h2); clear h1 h2 h3)
        have HN := Kp.mk (show DrI a b [] B (out ++ [(2, y)]) _ _ (.slice (some ⟨g', 0, none⟩) (out.length + 1) cap') w w' from
          ⟨HI.out.ra, HSB.out, own_dq G1.out, HI.out.step HE.out, (by have := HI.out.l; simp at this ⊢; omega), HBQ.out.trans G2.out⟩)
        go_wp2_with fail
        go_roundw
        case rel => exact ⟨[], B, _, HN.out⟩
        case measure => simp [lenV51] <;> omega
    · obtain ⟨ba, bca, hfa, _, _, -⟩ := HI.out.ra
      subst hfa
      obtain ⟨ga, oa, rfl, hga, ca1⟩ := head_cell (HI.out.ra.below HI.out.bl)
      have HSA := Kp.mk (slc_one HI.out.ra)
      rcases B with _ | ⟨y, B⟩
      · obtain ⟨qa, qc, rfl, _, _, -⟩ := HI.out.rb
        have HE := Kp.mk (dfL_gone x A)
        go_upto_region 3 with fail
        go_quiet (fail)
        go_upto_region 7 with fail
        refine region_in (fun W => Below wr.heap.size wr W) (by kernel_rfl) (by kernel_rfl) ⟨rfl, rfl, rfl, Nat.le_refl _, fun _ _ => rfl⟩ ?_
        haveI hne : Nonempty (InS (fun W => Below wr.heap.size wr W)) := ⟨⟨wr, Below.refl _ _⟩⟩
        repeat (first | (go_big_quiet_step (fail)) | (apply BigFrame.wpQuiet_skip; rfl; try simp only [Act.put, List.setIfInBounds_toArray, List.set_cons_zero, List.set_cons_succ]))
        refine wpQuiet_nil ?_
        intro _ hw'
        obtain ⟨wq, rfl⟩ := hw'
        have HWQ := Kp.mk wq.ok
        have HODQ := Kp.mk (own_kd (w' := wq.w) HI.out.o fun g _ hg => HWQ.out.block g hg)
        have HSQ := Kp.mk (Nat.le_trans HSZ.out HWQ.out.size)
        have HBQ := Kp.mk (HI.out.bl.trans (HWQ.out.mono HSZ.out))
        have cqa := (HWQ.out.cell (p := ⟨ga, oa, none⟩) hga).trans ca1
        go_wp2_with (at_builtin; refine app_any rfl _ _ _ _ rfl Try.underlying93 _ _ _ Try.infoDq rfl (by omega) w.heap.size _ _ _ rfl HODQ.out #[.int .i64 1, .string x] rfl (fun u hu => by simp at hu; rcases hu with rfl | rfl <;> rfl) _ rfl rfl hlen0 hmx0 HSQ.out ?_; intro g' cap' w' h1 h2 h3; have G1 := Kp.mk h1; have G2 := Kp.mk (grown_bel HODQ.out HSQ.out h2); clear h1 h2 h3)
        have HN := Kp.mk (show DrI a b A [] (out ++ [(1, x)]) _ _ (.slice (some ⟨g', 0, none⟩) (out.length + 1) cap') w w' from
          ⟨HSA.out, HI.out.rb, own_dq G1.out, HI.out.step HE.out, (by have := HI.out.l; simp at this ⊢; omega), HBQ.out.trans G2.out⟩)
        go_wp2_with fail
        go_roundw
        case rel => exact ⟨A, [], _, HN.out⟩
        case measure => simp [lenV51] <;> omega
      · obtain ⟨bb, bc, hfb, _, _, -⟩ := HI.out.rb
        subst hfb
        obtain ⟨gb, ob, rfl, hgb, cb⟩ := head_cell (HI.out.rb.below HI.out.bl)
        have HSB := Kp.mk (slc_one HI.out.rb)
        have HCO := Kp.mk (dfL_cons x y A B)
        by_cases he : x = y
        · subst he
          have he2 : (x.toList == x.toList) = true := by simp
          have HE := Kp.mk (HCO.out.trans (if_pos rfl))
          clear HCO
          go_upto_region 3 with fail
          go_quiet (fail)
          go_wp2_with (at_builtin; refine app_any rfl _ _ _ _ rfl Try.underlying93 _ _ _ Try.infoDq rfl (by omega) w.heap.size _ _ _ rfl (HODQ.out _) #[.int .i64 0, .string x] rfl (fun u hu => by simp at hu; rcases hu with rfl | rfl <;> rfl) _ rfl rfl hlen0 hmx0 HSZ.out ?_; intro g' cap' w' h1 h2 h3; have G1 := Kp.mk h1; have G2 := Kp.mk (grown_bel (HODQ.out _) HSZ.out h2); clear h1 h2 h3)
          have HN := Kp.mk (show DrI a b A B (out ++ [(0, x)]) _ _ (.slice (some ⟨g', 0, none⟩) (out.length + 1) cap') w w' from
            ⟨HSA.out, HSB.out, own_dq G1.out, HI.out.step HE.out, (by have := HI.out.l; simp at this ⊢; omega), (HI.out.bl.trans (gdrewQ _ _ _)).trans G2.out⟩)
          go_wp2_with fail
          go_roundw
          case rel => exact ⟨A, B, _, HN.out⟩
          case measure => simp [lenV51] <;> omega
        · have he2 := ba_tlb he
          have HA2 := Kp.mk (HCO.out.trans (if_neg he))
          clear HCO
          have HWS := Kp.mk HI.out.bl.size
          have HRA := Kp.mk HI.out.ra
          have HRB := Kp.mk HI.out.rb
          have hl1 := HI.out.l
          simp only [List.length_cons] at hl1
          have HL1 := Kp.mk (fun (W : World) (h : Below wr.heap.size wr W) => (rlong_any _ _ A (y :: B) W (HSA.out.below (HI.out.bl.trans (h.mono HWS.out))) (HRB.out.below (HI.out.bl.trans (h.mono HWS.out))) (by omega) (by simp only [List.length_cons]; omega)).mono fun e w' h2 => (show e = .returned (.int .i64 (lcs A (y :: B) : Nat)) ∧ Below wr.heap.size wr w' from ⟨h2.1, h.trans (h2.2.mono h.size)⟩))
          have HL2 := Kp.mk (fun (W : World) (h : Below wr.heap.size wr W) => (rlong_any _ _ (x :: A) B W (HRA.out.below (HI.out.bl.trans (h.mono HWS.out))) (HSB.out.below (HI.out.bl.trans (h.mono HWS.out))) (by simp only [List.length_cons]; omega) (by omega)).mono fun e w' h2 => (show e = .returned (.int .i64 (lcs (x :: A) B : Nat)) ∧ Below wr.heap.size wr w' from ⟨h2.1, h.trans (h2.2.mono h.size)⟩))
          have q9 : ((B.length : Int) + 1 == 0) = false := by rw [beq_eq_false_iff_ne]; omega
          generalize lcs A (y :: B) = Z1 at *
          generalize lcs (x :: A) B = Z2 at *
          clear hl1
          have q8 : ∀ r : Bool, decide (Z2 ≤ Z1) = r → decide ((Z2 : Int) ≤ (Z1 : Int)) = r := fun r h => by rw [← h]; exact decide_eq_decide.2 (by omega)
          go_upto_region 3 with fail
          go_quiet (fail)
          go_upto_region 7 with fail
          refine region_in (fun W => Below wr.heap.size wr W) (by kernel_rfl) (by kernel_rfl) ⟨rfl, rfl, rfl, Nat.le_refl _, fun _ _ => rfl⟩ ?_
          haveI hne : Nonempty (InS (fun W => Below wr.heap.size wr W)) := ⟨⟨wr, Below.refl _ _⟩⟩
          repeat (go_big_quiet_step (fail))
          go_big_quiet_step ((go_at_call 94; exact call_in HL1.out))
          repeat (go_big_quiet_step (fail))
          go_big_quiet_step ((go_at_call 94; exact call_in HL2.out))
          repeat (go_big_quiet_step (fail))
          refine wpQuiet_nil ?_
          intro _ hw'
          obtain ⟨wq, rfl⟩ := hw'
          have HWQ := Kp.mk wq.ok
          have HODQ := Kp.mk (own_kd (w' := wq.w) HI.out.o fun g _ hg => HWQ.out.block g hg)
          have HSQ := Kp.mk (Nat.le_trans HSZ.out HWQ.out.size)
          have HBQ := Kp.mk (HI.out.bl.trans (HWQ.out.mono HSZ.out))
          have cqa := (HWQ.out.cell (p := ⟨ga, oa, none⟩) hga).trans ca1
          have cqb := (HWQ.out.cell (p := ⟨gb, ob, none⟩) hgb).trans cb
          by_cases hle : Z2 ≤ Z1
          · have HE := Kp.mk (HA2.out.trans (if_pos hle))
            have hli : (Z2 : Int) ≤ (Z1 : Int) := by omega
            clear HA2 q8
            go_wp2_with (at_builtin; refine app_any rfl _ _ _ _ rfl Try.underlying93 _ _ _ Try.infoDq rfl (by omega) w.heap.size _ _ _ rfl HODQ.out #[.int .i64 1, .string x] rfl (fun u hu => by simp at hu; rcases hu with rfl | rfl <;> rfl) _ rfl rfl hlen0 hmx0 HSQ.out ?_; intro g' cap' w' h1 h2 h3; have G1 := Kp.mk h1; have G2 := Kp.mk (grown_bel HODQ.out HSQ.out h2); clear h1 h2 h3)
            have HN := Kp.mk (show DrI a b A (y :: B) (out ++ [(1, x)]) _ _ (.slice (some ⟨g', 0, none⟩) (out.length + 1) cap') w w' from
              ⟨HSA.out, HI.out.rb, own_dq G1.out, HI.out.step HE.out, (by have := HI.out.l; simp at this ⊢; omega), HBQ.out.trans G2.out⟩)
            go_wp2_with fail
            go_roundw
            case rel => exact ⟨A, (y :: B), _, HN.out⟩
            case measure => simp [lenV51] <;> omega
          · have HE := Kp.mk (HA2.out.trans (if_neg hle))
            have hli : ¬ (Z2 : Int) ≤ (Z1 : Int) := by omega
            clear HA2 q8
            go_wp2_with (at_builtin; refine app_any rfl _ _ _ _ rfl Try.underlying93 _ _ _ Try.infoDq rfl (by omega) w.heap.size _ _ _ rfl HODQ.out #[.int .i64 2, .string y] rfl (fun u hu => by simp at hu; rcases hu with rfl | rfl <;> rfl) _ rfl rfl hlen0 hmx0 HSQ.out ?_; intro g' cap' w' h1 h2 h3; have G1 := Kp.mk h1; have G2 := Kp.mk (grown_bel HODQ.out HSQ.out h2); clear h1 h2 h3)
            have HN := Kp.mk (show DrI a b (x :: A) B (out ++ [(2, y)]) _ _ (.slice (some ⟨g', 0, none⟩) (out.length + 1) cap') w w' from
              ⟨HI.out.ra, HSB.out, own_dq G1.out, HI.out.step HE.out, (by have := HI.out.l; simp at this ⊢; omega), HBQ.out.trans G2.out⟩)
            go_wp2_with fail
            go_roundw
            case rel => exact ⟨(x :: A), B, _, HN.out⟩
            case measure => simp [lenV51] <;> omega
end Go.Proofs.Ytnpolkpofaamlaa
