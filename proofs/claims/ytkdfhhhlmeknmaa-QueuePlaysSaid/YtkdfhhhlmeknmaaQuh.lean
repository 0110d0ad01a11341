/- Octets that wait: the law QueuePlays (layer 3). -/
import Derived.Test.YtkdfhhhlmeknmaaQug
import Derived.Deep.QuietTactic
import Derived.BigQuiet
namespace Go.Proofs.Ytkdfhhhlmeknmaa
open Go.RowKit
set_option linter.unusedVariables false
set_option linter.unusedSimpArgs false

/-- A round's world: the queue, the document's, the call's box. -/
structure PlSt (w : World) (B c bx most : Nat) (op cn : Int) (tx : ByteArray) (S1 S2 : List UInt8) (w' : World) : Prop where
  q : QS (B + 1) B most S1 w'
  r : RQ c most S2 w'
  box : w'.heap[bx]? = some (.cells #[.int .i64 op, .int .i64 cn, .string tx] 50 (0, 0))
  bel : Below w.heap.size w w'
  wB : w.heap.size ≤ B
  c1 : B + 1 < c
  c2 : c < bx
theorem PlSt.drewN {w : World} {B c bx most : Nat} {op cn : Int} {tx : ByteArray} {S1 S2 : List UInt8} {w' : World} (h : PlSt w B c bx most op cn tx S1 S2 w') (n : Nat) : PlSt w B c bx most op cn tx S1 S2 (w'.drewN n) :=
  ⟨h.q.kept fun _ _ _ => rfl, h.r.kept rfl, h.box, h.bel.trans ⟨rfl, rfl, rfl, Nat.le_refl _, fun _ _ => rfl⟩, h.wB, h.c1, h.c2⟩
theorem PlSt.drew {w : World} {B c bx most : Nat} {op cn : Int} {tx : ByteArray} {S1 S2 : List UInt8} {w' : World} (h : PlSt w B c bx most op cn tx S1 S2 w') : PlSt w B c bx most op cn tx S1 S2 w'.drew := h.drewN 1
theorem PlSt.onq {w : World} {B c bx most : Nat} {op cn : Int} {tx : ByteArray} {S1 S1' S2 : List UInt8} {w' w2 : World} (h : PlSt w B c bx most op cn tx S1 S2 w') (hq : QS (B + 1) B most S1' w2) (ho : Onl (B + 1) (some B) w' w2) : PlSt w B c bx most op cn tx S1' S2 w2 := by
  have h1 := h.c1
  have h2 := h.c2
  have h3 := h.wB
  exact ⟨hq, h.r.kept (ho.block c (blk_lt h.r.blk) (by omega) (by intro e; cases e; omega)), (ho.block bx (blk_lt h.box) (by omega) (by intro e; cases e; omega)).trans h.box, h.bel.trans (onl_own ho (by omega) h3 h.bel.size), h.wB, h.c1, h.c2⟩
theorem PlSt.onr {w : World} {B c bx most : Nat} {op cn : Int} {tx : ByteArray} {S1 S2' S2 : List UInt8} {w' w2 : World} (h : PlSt w B c bx most op cn tx S1 S2 w') (hr : RQTo c most S2' w' w2) : PlSt w B c bx most op cn tx S1 S2' w2 := by
  have h1 := h.c1
  have h2 := h.c2
  have h3 := h.wB
  exact ⟨h.q.kept fun k hk hor => hr.2.block k hk (by omega) (by intro e; cases e), hr.1, (hr.2.block bx (blk_lt h.box) (by omega) (by intro e; cases e)).trans h.box, h.bel.trans (hr.2.below (by omega) h.bel.size (by intro k e; cases e)), h.wB, h.c1, h.c2⟩
theorem PlSt.below {w : World} {B c bx most : Nat} {op cn : Int} {tx : ByteArray} {S1 S2 : List UInt8} {w' w2 : World} (h : PlSt w B c bx most op cn tx S1 S2 w') (hb : Below w'.heap.size w' w2) : PlSt w B c bx most op cn tx S1 S2 w2 :=
  ⟨h.q.below hb, h.r.kept (hb.block c (blk_lt h.r.blk)), (hb.block bx (blk_lt h.box)).trans h.box, h.bel.trans (hb.mono h.bel.size), h.wB, h.c1, h.c2⟩
theorem wrap_id {x : Int} (h1 : -9223372036854775808 ≤ x) (h2 : x < 9223372036854775808) : IntKind.i64.wrap x = x := by
  simp [IntKind.wrap, IntKind.signed, IntKind.bits, wrap64]
  split <;> omega
theorem q_len2 (b g M : Nat) (S : List UInt8) (w : World) (h : QS b g M S w) :
    Calls Try.prog 35 #[.pointer (some ⟨b, 0, none⟩)] w fun e w' => e = .returned (.int .i64 ((oB S).size : Nat)) ∧ w' = w := by
  refine (q_len b g M S w h).mono ?_
  rintro e w' ⟨rfl, rfl⟩
  rw [oB_size]
  exact ⟨rfl, rfl⟩
theorem q_room2 (b g M : Nat) (S : List UInt8) (w : World) (h : QS b g M S w) :
    Calls Try.prog 36 #[.pointer (some ⟨b, 0, none⟩)] w fun e w' => e = .returned (.int .i64 ((M : Int) - ((oB S).size : Int))) ∧ w' = w := by
  refine (q_room b g M S w h).mono ?_
  rintro e w' ⟨rfl, rfl⟩
  have := h.le.1
  rw [oB_size]
  exact ⟨qret (by omega), rfl⟩
theorem q_most2 (b g M : Nat) (S : List UInt8) (w : World) (h : QS b g M S w) :
    Calls Try.prog 37 #[.pointer (some ⟨b, 0, none⟩)] w fun e w' => e = .returned (.int .i64 (M : Int)) ∧ w' = w := by
  refine (q_most b g M S w h).mono ?_
  rintro e w' ⟨rfl, rfl⟩
  exact ⟨rfl, rfl⟩

set_option maxRecDepth 100000 in
set_option maxHeartbeats 4000000 in
theorem qplays_walk (m : Int) (v : Value) (ps : List QA) (w : World) (hv : RdL qactC 3 w v ps) (hz : ∀ p ∈ ps, (Lit.int .i64 p.1).wf = true ∧ (Lit.int .i64 p.2.1).wf = true ∧ p.2.2.size ≤ maxLen) :
    Calls Try.prog 6 #[.int .i64 m, v] w fun e w' => e = .returned (.bool true) ∧ Below w.heap.size w w' := by
  have HV := Kp.mk hv
  have HZ := Kp.mk hz
  obtain ⟨a, cap, rfl, hc1, hc2, -⟩ := hv
  clear hz hc2
  by_cases hin : 0 ≤ m ∧ m ≤ 2000
  · obtain ⟨most, rfl⟩ := Int.eq_ofNat_of_zero_le hin.1
    have hm : most ≤ 2000 := by omega
    have hn1 : decide ((most : Int) < 0) = false := by simp
    have hn2 : decide ((2000 : Int) < (most : Int)) = false := by simp; omega
    clear hin
    go_enter Try.func6, Try.ntmps6
    go_wp2_with fail
    refine (few3_any _ ps _ HV.out (fun p hp => (HZ.out p hp).2.2)).mono ?_
    rintro e w1 ⟨ok, rfl, hb1, hok⟩
    have HB1 := Kp.mk hb1
    have HOK := Kp.mk hok
    clear hb1 hok
    cases ok
    · have hn3 : decide ((0 : Int) ≤ (most : Int)) = true := by simp
      have hn4 : decide ((most : Int) ≤ 65536) = true := by simp; omega
      go_wp2_with fail
      refine (lives3_any _).mono ?_
      rintro e w2 ⟨rfl, hb2⟩
      go_wp2_with fail
      go_ret
      exact ⟨rfl, HB1.out.trans (hb2.mono HB1.out.size)⟩
    · have hpl := (HOK.out rfl).1
      have HPS := Kp.mk (HOK.out rfl).2
      go_wp2_with fail
      refine (q_new most _ (by omega)).mono ?_
      rintro e w2 ⟨rfl, hq2, hb2⟩
      have hbw : w.heap.size ≤ w1.heap.size := HB1.out.size
      have HB2 := Kp.mk (HB1.out.trans (hb2.mono hbw))
      obtain ⟨hl1, hl2⟩ := hq2.lt
      have HQ3 := Kp.mk (show QS (w1.heap.size + 1) w1.heap.size most [] (w2.alloc (.cells #[.string ByteArray.empty, .int .i64 most] 48)) from hq2.below ((Below.refl _ _).alloc (Nat.le_refl _) _))
      have HR3 := Kp.mk (show RQ w2.heap.size most [] (w2.alloc (.cells #[.string ByteArray.empty, .int .i64 most] 48)) from ⟨heap_alloc_new w2 _⟩)
      have HB3 := Kp.mk (HB2.out.alloc HB2.out.size (.cells #[.string ByteArray.empty, .int .i64 most] 48))
      clear hb2 hq2
      generalize w1.heap.size = B at *
      go_wp2_with fail
      go_loopw [43] (fun i wr => ∃ (k : Nat) (S : List UInt8), k ≤ ps.length ∧ i = .int .i64 k ∧ QS (B + 1) B most S wr ∧ RQ w2.heap.size most S wr ∧ Below w.heap.size w wr) (fun i _ => ps.length - (intOf i).toNat)
      case atStart => exact ⟨0, [], by omega, rfl, HQ3.out, HR3.out, HB3.out⟩
      case round =>
        obtain ⟨k, S, hk, rfl, hqs, hrs, hb⟩ := hrel
        have HQ := Kp.mk hqs
        have HR := Kp.mk hrs
        have HB := Kp.mk hb
        have hsz := hb.size
        obtain ⟨hsm, -⟩ := hqs.le
        have hcl := blk_lt hrs.blk
        clear hqs hrs hb
        by_cases hlt : k < ps.length
        · obtain ⟨g, o, rfl, hgl, d0⟩ := qact_cells (HV.out.below HB.out) (by omega)
          obtain ⟨c1, c2, c3⟩ := d0 k hlt
          have m1 := HPS.out ps[k] (List.getElem_mem hlt)
          have q0 : (0 : Int) ≤ (k : Int) := by omega
          have q1 : (k : Int) < (ps.length : Int) := by omega
          clear d0
          generalize ps[k].1 = op at *
          generalize ps[k].2.1 = cn at *
          generalize ps[k].2.2 = tx at *
          have HST := Kp.mk (show PlSt w B w2.heap.size wr.heap.size most op cn tx S S (wr.alloc (.cells #[.int .i64 op, .int .i64 cn, .string tx] 50)) from
            ⟨HQ.out.below ((Below.refl _ _).alloc (Nat.le_refl _) _), HR.out.kept (Below.heap_alloc _ _ _ hcl), heap_alloc_new wr _, HB.out.alloc hsz _, hbw, by omega, hcl⟩)
          have hway : op = 1 ∨ op = 2 ∨ ((op == 1) = false ∧ (op == 2) = false) := by
            by_cases h1 : op = 1
            · exact .inl h1
            · by_cases h2 : op = 2
              · exact .inr (.inl h2)
              · exact .inr (.inr ⟨by simp [h1], by simp [h2]⟩)
          rcases hway with rfl | rfl | ⟨o1, o2⟩
          · go_wp2_with fail
            first
              | go_region_with (first
                  | (go_at_call 29; refine (q_put (B + 1) B most S tx _ (by first | exact HSTr.out.q | exact HST.out.drew.q | exact HST.out.q) (by omega)).mono ?_; rintro e wq ⟨rfl, hq, hoq⟩; have HSTq := Kp.mk ((show PlSt w B w2.heap.size wr.heap.size most 1 cn tx S _ _ by first | exact HSTr.out | exact HST.out.drew | exact HST.out).onq hq hoq); have dq := blk_cell (i := 2) HSTq.out.box rfl; clear hq hoq)
                  | (go_at_call 30; refine (rq_put w2.heap.size most S tx _ (by first | exact HSTq.out.r | exact HST.out.drew.r | exact HST.out.r) (by omega) hsm (by omega)).mono ?_; rintro e wq2 ⟨rfl, hr⟩; have HSTr := Kp.mk ((show PlSt w B w2.heap.size wr.heap.size most 1 cn tx _ S _ by first | exact HSTq.out | exact HST.out.drew | exact HST.out).onr hr); have dr := blk_cell (i := 2) HSTr.out.box rfl; clear hr))
              | fail
            all_goals
              have HF := Kp.mk (show PlSt w B w2.heap.size wr.heap.size most 1 cn tx (S ++ tx.data.toList.take (min tx.size (most - S.length))) (S ++ tx.data.toList.take (min tx.size (most - S.length))) _ by first | exact HSTr.out | exact HSTq.out)
              have e0 := blk_cell (i := 0) HF.out.r.blk rfl
              have hle := HF.out.q.le
              have hs0 := oB_size (S ++ tx.data.toList.take (min tx.size (most - S.length)))
              have hs1 : (oB (S ++ tx.data.toList.take (min tx.size (most - S.length)))).size ≤ most := by omega
              have hs2 : (((oB (S ++ tx.data.toList.take (min tx.size (most - S.length)))).size : Nat) : Int) ≤ (most : Int) := by omega
              have hw9 : IntKind.i64.wrap ((most : Int) - (((oB (S ++ tx.data.toList.take (min tx.size (most - S.length)))).size : Nat) : Int)) = (most : Int) - (((oB (S ++ tx.data.toList.take (min tx.size (most - S.length)))).size : Nat) : Int) := wrap_id (by omega) (by omega)
              clear hle hs0
              go_wp2_with fail
              go_quiet (first
                | (go_at_call 35; exact Calls.quiet_of_same (q_len2 _ _ _ _ _ (HF.out.drewN _).q))
                | (go_at_call 36; exact Calls.quiet_of_same (q_room2 _ _ _ _ _ (HF.out.drewN _).q))
                | (go_at_call 37; exact Calls.quiet_of_same (q_most2 _ _ _ _ _ (HF.out.drewN _).q)))
              go_wp2_with fail
              go_roundw
              case rel => exact ⟨k + 1, S ++ tx.data.toList.take (min tx.size (most - S.length)), by omega, by go_num, HF.out.q.kept fun _ _ _ => rfl, HF.out.r.kept rfl, (HF.out.drewN _).bel⟩
              case measure => simp [intOf]; omega
          · go_wp2_with fail
            first
              | go_region_with (first
                  | (go_at_call 31; refine (q_take (B + 1) B most S cn _ (by first | exact HSTr.out.q | exact HST.out.drew.q | exact HST.out.q)).mono ?_; rintro e wq ⟨rfl, hq, hoq⟩; have HSTq := Kp.mk ((show PlSt w B w2.heap.size wr.heap.size most 2 cn tx S _ _ by first | exact HSTr.out | exact HST.out.drew | exact HST.out).onq hq hoq); have dq := blk_cell (i := 1) HSTq.out.box rfl; clear hq hoq)
                  | (go_at_call 32; refine (rq_take w2.heap.size most S cn _ (by first | exact HSTq.out.r | exact HST.out.drew.r | exact HST.out.r) (by omega)).mono ?_; rintro e wq2 ⟨rfl, hr⟩; have HSTr := Kp.mk ((show PlSt w B w2.heap.size wr.heap.size most 2 cn tx _ S _ by first | exact HSTq.out | exact HST.out.drew | exact HST.out).onr hr); have dr := blk_cell (i := 1) HSTr.out.box rfl; clear hr))
              | fail
            all_goals
              have HF := Kp.mk (show PlSt w B w2.heap.size wr.heap.size most 2 cn tx (S.drop cn.toNat) (S.drop cn.toNat) _ by first | exact HSTr.out | exact HSTq.out)
              have e0 := blk_cell (i := 0) HF.out.r.blk rfl
              have hle := HF.out.q.le
              have hs0 := oB_size (S.drop cn.toNat)
              have hs1 : (oB (S.drop cn.toNat)).size ≤ most := by omega
              have hs2 : (((oB (S.drop cn.toNat)).size : Nat) : Int) ≤ (most : Int) := by omega
              have hw9 : IntKind.i64.wrap ((most : Int) - (((oB (S.drop cn.toNat)).size : Nat) : Int)) = (most : Int) - (((oB (S.drop cn.toNat)).size : Nat) : Int) := wrap_id (by omega) (by omega)
              clear hle hs0
              go_wp2_with fail
              go_quiet (first
                | (go_at_call 35; exact Calls.quiet_of_same (q_len2 _ _ _ _ _ (HF.out.drewN _).q))
                | (go_at_call 36; exact Calls.quiet_of_same (q_room2 _ _ _ _ _ (HF.out.drewN _).q))
                | (go_at_call 37; exact Calls.quiet_of_same (q_most2 _ _ _ _ _ (HF.out.drewN _).q)))
              go_wp2_with fail
              go_roundw
              case rel => exact ⟨k + 1, S.drop cn.toNat, by omega, by go_num, HF.out.q.kept fun _ _ _ => rfl, HF.out.r.kept rfl, (HF.out.drewN _).bel⟩
              case measure => simp [intOf]; omega
          · go_wp2_with fail
            first
              | go_region_with (first
                  | (go_at_call 33; refine (q_peek (B + 1) B most S cn _ (by first | exact HSTr.out.q | exact HST.out.drew.q | exact HST.out.q)).mono ?_; rintro e wq ⟨rfl, hoq⟩; have HSTq := Kp.mk ((show PlSt w B w2.heap.size wr.heap.size most op cn tx S _ _ by first | exact HSTr.out | exact HST.out.drew | exact HST.out).below hoq); have dq := blk_cell (i := 1) HSTq.out.box rfl; clear hoq)
                  | (go_at_call 34; refine (rq_peek w2.heap.size most S cn _ (by first | exact HSTq.out.r | exact HST.out.drew.r | exact HST.out.r) (by omega)).mono ?_; rintro e wq2 ⟨rfl, hr⟩; have HSTr := Kp.mk ((show PlSt w B w2.heap.size wr.heap.size most op cn tx _ S _ by first | exact HSTq.out | exact HST.out.drew | exact HST.out).below hr); have dr := blk_cell (i := 1) HSTr.out.box rfl; clear hr))
              | fail
            all_goals
              have HF := Kp.mk (show PlSt w B w2.heap.size wr.heap.size most op cn tx (S) (S) _ by first | exact HSTr.out | exact HSTq.out)
              have e0 := blk_cell (i := 0) HF.out.r.blk rfl
              have hle := HF.out.q.le
              have hs0 := oB_size (S)
              have hs1 : (oB (S)).size ≤ most := by omega
              have hs2 : (((oB (S)).size : Nat) : Int) ≤ (most : Int) := by omega
              have hw9 : IntKind.i64.wrap ((most : Int) - (((oB (S)).size : Nat) : Int)) = (most : Int) - (((oB (S)).size : Nat) : Int) := wrap_id (by omega) (by omega)
              clear hle hs0
              go_wp2_with fail
              go_quiet (first
                | (go_at_call 35; exact Calls.quiet_of_same (q_len2 _ _ _ _ _ (HF.out.drewN _).q))
                | (go_at_call 36; exact Calls.quiet_of_same (q_room2 _ _ _ _ _ (HF.out.drewN _).q))
                | (go_at_call 37; exact Calls.quiet_of_same (q_most2 _ _ _ _ _ (HF.out.drewN _).q)))
              go_wp2_with fail
              go_roundw
              case rel => exact ⟨k + 1, S, by omega, by go_num, HF.out.q.kept fun _ _ _ => rfl, HF.out.r.kept rfl, (HF.out.drewN _).bel⟩
              case measure => simp [intOf]; omega
        · go_wp2_with fail
          refine (lives3_any _).mono ?_
          rintro e w4 ⟨rfl, hb4⟩
          go_wp2_with fail
          go_ret
          exact ⟨rfl, HB.out.trans (hb4.mono hsz)⟩
  · go_enter Try.func6, Try.ntmps6
    have HIN := Kp.mk hin
    clear hin
    by_cases h1 : m < 0
    · have t1 : decide (m < 0) = true := decide_eq_true h1
      have t3 : decide ((0 : Int) ≤ m) = false := decide_eq_false (by omega)
      go_wp2_with fail
      refine (qnew_no m _ (by omega)).mono ?_
      rintro e w2 ⟨rfl, rfl⟩
      go_wp2_with fail
      refine (lives3_any _).mono ?_
      rintro e w4 ⟨rfl, hb4⟩
      go_wp2_with fail
      go_ret
      exact ⟨rfl, hb4⟩
    · have h2 : 2000 < m := by have := HIN.out; omega
      have t1 : decide (m < 0) = false := decide_eq_false h1
      have t2 : decide ((2000 : Int) < m) = true := decide_eq_true h2
      have t3 : decide ((0 : Int) ≤ m) = true := decide_eq_true (by omega)
      by_cases h3 : m ≤ 65536
      · have t4 : decide (m ≤ 65536) = true := decide_eq_true h3
        go_wp2_with fail
        refine (lives3_any _).mono ?_
        rintro e w4 ⟨rfl, hb4⟩
        go_wp2_with fail
        go_ret
        exact ⟨rfl, hb4⟩
      · have t4 : decide (m ≤ 65536) = false := decide_eq_false h3
        go_wp2_with fail
        refine (qnew_no m _ (by omega)).mono ?_
        rintro e w2 ⟨rfl, rfl⟩
        go_wp2_with fail
        refine (lives3_any _).mono ?_
        rintro e w4 ⟨rfl, hb4⟩
        go_wp2_with fail
        go_ret
        exact ⟨rfl, hb4⟩
end Go.Proofs.Ytkdfhhhlmeknmaa
