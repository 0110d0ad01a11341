/- Who is due (layer 41): the law ClockPlays (bin/mkckk.py). -/
import Derived.Test.YtpgnekejemockaaCkj
namespace Go.Proofs.Ytpgnekejemockaa
open Go.RowKit
set_option linter.unusedVariables false
set_option linter.unusedSimpArgs false

/-- What holds at each round's head. -/
structure CpI (b m k : Nat) (now : Int) (vw : Value) (X : List Rw) (w wr : World) : Prop where
  ck : CK b m k now (fnd X) wr
  r : RdR wr vw X
  once : Once X
  ln : X.length ≤ k
  k1 : k ≤ 101
  wf : ∀ p ∈ X, (Lit.int .i64 p.1).wf = true
  bd : ∀ p ∈ X, -281474976710656 ≤ p.2 ∧ p.2 ≤ 281474976710656 + 200 * 1073741824
  n0 : -281474976710656 ≤ now
  n1 : now ≤ 281474976710656 + k * 1073741824
  bl : Below w.heap.size w wr
  hb : w.heap.size ≤ b
  hm : w.heap.size ≤ m
theorem ck_more {b m n n' : Nat} {now : Int} {F : Int → Option Int} {w : World} (h : CK b m n now F w) (hn : n ≤ n') : CK b m n' now F w := by
  obtain ⟨D, h1, h2⟩ := h.hm
  obtain ⟨es, clock, hb, F, hs, hD⟩ := h1
  exact ⟨h.hb, ⟨D, ⟨es, clock, hb, F, Nat.le_trans hs hn, hD⟩, h2⟩, h.ne⟩
theorem CpI.below {b m k : Nat} {now : Int} {vw : Value} {X : List Rw} {w wr w' : World} (h : CpI b m k now vw X w wr) (hb : Below wr.heap.size wr w') : CpI b m k now vw X w w' :=
  { h with ck := h.ck.below hb, r := h.r.below hb, bl := h.bl.trans (hb.mono h.bl.size) }
theorem CpI.next {b m k : Nat} {now : Int} {vw : Value} {X : List Rw} {w wr : World} (h : CpI b m k now vw X w wr) (hk : k ≤ 100) : CpI b m (k + 1) now vw X w wr :=
  { h with ck := ck_more h.ck (Nat.le_succ _), ln := Nat.le_succ_of_le h.ln, k1 := by omega, n1 := by have := h.n1; omega }
theorem fnd_set (X : List Rw) (id v : Int) : setF (fnd X) id v = fnd (wth X id ++ [(id, v)]) := by
  funext k
  rw [fnd_app (wth X id) id v k (fun p hp => (mem_wth.1 hp).2)]
  unfold setF
  rw [fnd_wth]
  by_cases e : k = id <;> simp [e]
theorem fnd_del (X : List Rw) (id : Int) : delF (fnd X) id = fnd (wth X id) := by
  funext k
  unfold delF
  rw [fnd_wth]
theorem once_app {X : List Rw} (h : Once X) (id v : Int) : Once (wth X id ++ [(id, v)]) := by
  refine List.pairwise_append.2 ⟨once_wth h id, List.pairwise_singleton _ _, fun p hp q hq => ?_⟩
  rw [List.mem_singleton] at hq
  subst hq
  exact (mem_wth.1 hp).2
theorem rest_mem {X : List Rw} {T : Int} {p : Rw} (h : p ∈ X.filter (fun p => !decide (p.2 ≤ T))) : p ∈ X := (List.mem_filter.1 h).1
/-- What the clock tells is what the document tells. -/
theorem due_same {X : List Rw} {T : Int} {l : List Int} (ho : Once X) (hx : ∀ p ∈ X, (Lit.int .i64 p.1).wf = true) (hp : l.Pairwise (ltW (fnd X))) (hw : ∀ x ∈ l, (Lit.int .i64 x).wf = true) (hm : ∀ x, (Lit.int .i64 x).wf = true → (x ∈ l ↔ ∃ v, fnd X x = some v ∧ v ≤ T)) : l = (dueL X T).1 := by
  have S := dueS_any _ X T rfl ho
  refine ltW_uniq hp S.ord fun x => ?_
  rw [S.mem]
  constructor
  · intro h; exact (hm x (hw x h)).1 h
  · rintro ⟨v, h1, h2⟩
    exact (hm x (hx _ (fnd_mem h1))).2 ⟨v, h1, h2⟩
set_option maxRecDepth 100000 in
set_option maxHeartbeats 1500000 in
theorem cplays_walk (now : Int) (v : Value) (ps : List CAc) (w : World) (hv : RdL cactC 3 w v ps) (hz : ∀ p ∈ ps, (Lit.int .i64 p.1).wf = true ∧ (Lit.int .i64 p.2.1).wf = true ∧ (Lit.int .i64 p.2.2).wf = true) :
    Calls Try.prog 3 #[.int .i64 now, v] w fun e w' => e = .returned (.bool true) ∧ Below w.heap.size w w' := by
  have HV := Kp.mk hv
  have HZ := Kp.mk hz
  obtain ⟨a, cap, rfl, hc1, hc2, -⟩ := hv
  have hll : ps.length ≤ 9223372036854775807 := by unfold maxLen at hc2; omega
  clear hc2 hz
  by_cases hfar : now < -281474976710656 ∨ 281474976710656 < now
  · have HFAR := Kp.mk hfar
    rcases hfar with h0 | h0
    · go_enter Try.func3, Try.ntmps3
      go_wp2_with fail
      refine (cnew_far now _ HFAR.out).mono ?_
      rintro e w1 ⟨rfl, rfl⟩
      go_wp2_with fail
      refine (lives41_any _).mono ?_
      rintro e w2 ⟨rfl, hb2⟩
      go_wp2_with fail
      go_ret
      exact ⟨rfl, hb2⟩
    · have h1 : ¬ now < -281474976710656 := by omega
      go_enter Try.func3, Try.ntmps3
      go_wp2_with fail
      refine (cnew_far now _ HFAR.out).mono ?_
      rintro e w1 ⟨rfl, rfl⟩
      go_wp2_with fail
      refine (lives41_any _).mono ?_
      rintro e w2 ⟨rfl, hb2⟩
      go_wp2_with fail
      go_ret
      exact ⟨rfl, hb2⟩
  · have h0 : ¬ now < -281474976710656 := by omega
    have h1 : ¬ 281474976710656 < now := by omega
    have h0a : -281474976710656 ≤ now := by omega
    have h1a : now ≤ 281474976710656 := by omega
    have z0 : decide (now < -281474976710656) = false := decide_eq_false h0
    have z1 : decide (281474976710656 < now) = false := decide_eq_false h1
    clear hfar
    by_cases hn : 100 < ps.length
    · have q1 : (100 : Int) < (ps.length : Int) := by omega
      go_enter Try.func3, Try.ntmps3
      go_wp2_with fail
      refine (cnew_any now _ h0a h1a).mono ?_
      rintro e w1 ⟨b, m, rfl, hc, hb, hbl, hml⟩
      have HB := Kp.mk hb
      clear hc hb
      go_wp2_with fail
      refine (lives41_any _).mono ?_
      rintro e w2 ⟨rfl, hb2⟩
      go_wp2_with fail
      go_ret
      exact ⟨rfl, HB.out.trans (hb2.mono HB.out.size)⟩
    · have q1 : ¬ (100 : Int) < (ps.length : Int) := by omega
      go_enter Try.func3, Try.ntmps3
      go_wp2_with fail
      refine (cnew_any now _ h0a h1a).mono ?_
      rintro e w1 ⟨b, m, rfl, hc, hb, hbl, hml⟩
      have HI0 := Kp.mk (show CpI b m 0 now (.slice (some ⟨w1.heap.size, 0, none⟩) 0 0) [] w (w1.alloc (.cells #[] 33)) from
        { ck := hc.below ((Below.refl _ _).alloc (Nat.le_refl _) _), r := RdL.nil (by unfold maxLen; omega), once := List.Pairwise.nil, ln := Nat.le_refl _, k1 := by omega, wf := fun p hp => (by cases hp), bd := fun p hp => (by cases hp), n0 := h0a, n1 := by omega, bl := hb.alloc hb.size _, hb := hbl, hm := hml })
      clear hc hb hbl hml h0a h1a
      go_wp2_with fail
      go_loopw [0, 6, 45] (fun nv vw i wr => ∃ (k : Nat) (now : Int) (X : List Rw), k ≤ ps.length ∧ i = .int .i64 k ∧ nv = .int .i64 now ∧ CpI b m k now vw X w wr) (fun _ _ i _ => ps.length - (intOf i).toNat)
      case atStart => exact ⟨0, now, [], by omega, rfl, rfl, HI0.out⟩
      case round =>
        obtain ⟨k, now, X, hk, rfl, rfl, hI⟩ := hrel
        have HI := Kp.mk hI
        clear hI HI0
        by_cases hlt : k < ps.length
        · obtain ⟨g9, o, rfl, hgl, d0⟩ := cact_cells (HV.out.below HI.out.bl) (by omega)
          obtain ⟨c1, c2, c3⟩ := d0 k hlt
          have q2 : (k : Int) < (ps.length : Int) := by omega
          have HP := Kp.mk (HZ.out _ (List.getElem_mem hlt))
          generalize ps[k] = p at *
          obtain ⟨d, id, x⟩ := p
          dsimp only at c1 c2 c3
          have HW1 := Kp.mk HP.out.2.1
          have hbx := heap_alloc_new wr (.cells #[.int .i64 d, .int .i64 id, .int .i64 x] 28)
          have b0 := blk_cell (i := 0) hbx rfl
          have b1 := blk_cell (i := 1) hbx rfl
          have b2 := blk_cell (i := 2) hbx rfl
          have HBX := Kp.mk hbx
          have HJ := Kp.mk (HI.out.below ((Below.refl _ _).alloc (Nat.le_refl _) (.cells #[.int .i64 d, .int .i64 id, .int .i64 x] 28)))
          have hk100 : k ≤ 100 := by omega
          have hX : X.length ≤ 1000 := by have := HI.out.ln; omega
          have hnb : -1000000000000000000 ≤ now ∧ now ≤ 1000000000000000000 := by have := HI.out.n0; have := HI.out.n1; omega
          have HNB := Kp.mk hnb
          clear hbx d0
          obtain ⟨av, cv, rfl⟩ := rdr_form HJ.out.r
          have HML := Kp.mk HI.out.ck.mlt
          have HBL := Kp.mk (blk_lt HI.out.ck.hb)
          have n9 : (now != now) = false := by simp
          by_cases hd1 : d = 1
          · subst hd1
            have HT := Kp.mk (show tkI x = tkI x from rfl)
            have ht := tkI_in x
            have HWT := Kp.mk (fun (w : World) (h : RdR w (.slice av X.length cv) X) => rwth_any (.slice av X.length cv) X id w h hX)
            have HWI := Kp.mk (fun (w : World) => within41_any x w)
            go_wp2_with fail
            refine (cset_any b m k now (fnd X) id x _ HJ.out.ck HW1.out (by unfold maxLen; omega) hnb).mono ?_
            rintro e w1 ⟨⟨v0, rfl⟩, hc, hk1⟩
            generalize tkI x = T at *
            have HC1 := Kp.mk hc
            have HK1 := Kp.mk (hk1.mono (G := fun j => j ≠ b ∧ j ≠ m) fun j h => h.2)
            have HRW := Kp.mk (rdr_keep HJ.out.r HJ.out.ck HK1.out)
            have hbx1 := (hk1.block _ (blk_lt HBX.out) (fun e => by have := HML.out; omega)).trans HBX.out
            have x1 := blk_cell (i := 1) hbx1 rfl
            have x2 := blk_cell (i := 2) hbx1 rfl
            have hxl : wr.heap.size < w1.heap.size := blk_lt hbx1
            have HD := Kp.mk (show Below w1.heap.size w1 w1.drew from (Below.refl _ _).drew)
            have ST := Kp.mk (fun {Y : World} (hb : Below w1.heap.size w1 Y) => show (Y.cell? ⟨wr.heap.size, 1, none⟩ = some (.int .i64 id) ∧ Y.cell? ⟨wr.heap.size, 2, none⟩ = some (.int .i64 x)) from ⟨(hb.cell (p := ⟨wr.heap.size, 1, none⟩) hxl).trans x1, (hb.cell (p := ⟨wr.heap.size, 2, none⟩) hxl).trans x2⟩)
            have hwr : IntKind.i64.wrap (now + T) = now + T := by
              simp [IntKind.wrap, IntKind.signed, IntKind.bits, wrap64]; omega
            have lenC : ((wth X id).length + 1) * 16 ≤ 140737488355328 := by have := wth_len X id; omega
            have lenD : (wth X id).length + 1 ≤ maxLen := by have := wth_len X id; unfold maxLen; omega
            have HTI := Kp.mk ht
            have hK1 := hk1.below (B := w.heap.size) HJ.out.bl.size (fun j h => by have := HI.out.hm; omega)
            have HBW := Kp.mk (HJ.out.bl.trans hK1)
            have HXL := Kp.mk (wth_len X id)
            clear hc hk1 hbx1 hxl hnb ht hX c1 c2 c3 b0 b1 b2 hK1
            go_upto_region 18 with fail
            refine wp_region_held_drew (S := fun w' => w'.cell? ⟨wr.heap.size, 1, none⟩ = some (.int .i64 id) ∧ w'.cell? ⟨wr.heap.size, 2, none⟩ = some (.int .i64 x)) (by kernel_rfl) (ST.out HD.out) (fun hHeld => ?_)
            refine wpAnyH_take (i := 0) (oi := ⟨some 78, .move (.tmp 6), _, _, _, none⟩) (v := ?_) rfl (by kernel_rfl) (by kernel_rfl) (by kernel_rfl) (fun _ _ _ h => h) (Or.inl ⟨by rfl, ?_⟩) (by assumption) ?_
            rotate_left
            · intro w hSw
              try dsimp only at hSw
              go_simp
              try with_reducible rfl
            try simp only [Act.put, List.setIfInBounds_toArray, List.set_cons_zero, List.set_cons_succ]
            refine wpAnyH_take (i := 1) (oi := ⟨some 79, .fieldAddr 28 (.tmp 8) 1, _, _, _, none⟩) (v := ?_) rfl (by kernel_rfl) (by kernel_rfl) (by kernel_rfl) (fun _ _ _ h => h) (Or.inl ⟨by rfl, ?_⟩) (by assumption) ?_
            rotate_left
            · intro w hSw
              try dsimp only at hSw
              go_simp
              try with_reducible rfl
            try simp only [Act.put, List.setIfInBounds_toArray, List.set_cons_zero, List.set_cons_succ]
            refine wpAnyH_take (i := 2) (oi := ⟨some 80, .load 3 (.tmp 79), _, _, _, none⟩) (v := ?_) rfl (by kernel_rfl) (by kernel_rfl) (by kernel_rfl) (fun _ _ _ h => h) (Or.inl ⟨by rfl, ?_⟩) (by assumption) ?_
            rotate_left
            · intro w hSw
              try dsimp only at hSw
              go_simp
              try with_reducible rfl
            try simp only [Act.put, List.setIfInBounds_toArray, List.set_cons_zero, List.set_cons_succ]
            refine wpAnyH_take (i := 4) (oi := ⟨some 82, .fieldAddr 28 (.tmp 8) 1, _, _, _, none⟩) (v := ?_) rfl (by kernel_rfl) (by kernel_rfl) (by kernel_rfl) (fun _ _ _ h => h) (Or.inl ⟨by rfl, ?_⟩) (by assumption) ?_
            rotate_left
            · intro w hSw
              try dsimp only at hSw
              go_simp
              try with_reducible rfl
            try simp only [Act.put, List.setIfInBounds_toArray, List.set_cons_zero, List.set_cons_succ]
            refine wpAnyH_take (i := 5) (oi := ⟨some 83, .load 3 (.tmp 82), _, _, _, none⟩) (v := ?_) rfl (by kernel_rfl) (by kernel_rfl) (by kernel_rfl) (fun _ _ _ h => h) (Or.inl ⟨by rfl, ?_⟩) (by assumption) ?_
            rotate_left
            · intro w hSw
              try dsimp only at hSw
              go_simp
              try with_reducible rfl
            try simp only [Act.put, List.setIfInBounds_toArray, List.set_cons_zero, List.set_cons_succ]
            refine wpAnyH_take (i := 6) (oi := ⟨some 84, .move (.tmp 0), _, _, _, none⟩) (v := ?_) rfl (by kernel_rfl) (by kernel_rfl) (by kernel_rfl) (fun _ _ _ h => h) (Or.inl ⟨by rfl, ?_⟩) (by assumption) ?_
            rotate_left
            · intro w hSw
              try dsimp only at hSw
              go_simp
              try with_reducible rfl
            try simp only [Act.put, List.setIfInBounds_toArray, List.set_cons_zero, List.set_cons_succ]
            refine wpAnyH_take (i := 7) (oi := ⟨some 85, .fieldAddr 28 (.tmp 8) 2, _, _, _, none⟩) (v := ?_) rfl (by kernel_rfl) (by kernel_rfl) (by kernel_rfl) (fun _ _ _ h => h) (Or.inl ⟨by rfl, ?_⟩) (by assumption) ?_
            rotate_left
            · intro w hSw
              try dsimp only at hSw
              go_simp
              try with_reducible rfl
            try simp only [Act.put, List.setIfInBounds_toArray, List.set_cons_zero, List.set_cons_succ]
            refine wpAnyH_take (i := 8) (oi := ⟨some 86, .load 3 (.tmp 85), _, _, _, none⟩) (v := ?_) rfl (by kernel_rfl) (by kernel_rfl) (by kernel_rfl) (fun _ _ _ h => h) (Or.inl ⟨by rfl, ?_⟩) (by assumption) ?_
            rotate_left
            · intro w hSw
              try dsimp only at hSw
              go_simp
              try with_reducible rfl
            try simp only [Act.put, List.setIfInBounds_toArray, List.set_cons_zero, List.set_cons_succ]
            refine wpAnyH_ready (rs := [3]) (by kernel_rfl) (by simp) ?_
            refine AllReadyH.cons (o := ⟨some 81, _, _, _, _, none⟩) rfl (fun K hK => ?_) AllReadyH.nil
            go_simp
            (go_at_call 10; refine (HWT.out _ (HRW.out.below (Below.refl _ _).drew)).mono ?_; rintro e wq ⟨vq, rfl, hoq, hbq⟩; have HOQ := Kp.mk hoq; have HBQ := Kp.mk hbq; clear hoq hbq)
            try go_wp2_with fail
            refine hK.out _ _ (ST.out (HD.out.trans HBQ.out)) (fun hHeld2 => ?_)
            clear hK K
            try simp only [Act.put, List.setIfInBounds_toArray, List.set_cons_zero, List.set_cons_succ]
            refine wpAnyH_ready (rs := [9]) (by kernel_rfl) (by simp) ?_
            refine AllReadyH.cons (o := ⟨some 87, _, _, _, _, none⟩) rfl (fun K hK => ?_) AllReadyH.nil
            go_simp
            (go_at_call 11; refine (HWI.out _).mono ?_; rintro e wn ⟨rfl, rfl⟩)
            try go_wp2_with fail
            refine hK.out _ _ (ST.out (HD.out.trans HBQ.out)) (fun hHeld2 => ?_)
            clear hK K
            try simp only [Act.put, List.setIfInBounds_toArray, List.set_cons_zero, List.set_cons_succ]
            refine wpAnyH_take (i := 10) (oi := ⟨some 88, .binOp .add 3 (.tmp 84) (.tmp 87) 3, _, _, _, none⟩) (v := ?_) rfl (by kernel_rfl) (by kernel_rfl) (by kernel_rfl) (fun _ _ _ h => h) (Or.inl ⟨by rfl, ?_⟩) (by assumption) ?_
            rotate_left
            · intro w hSw
              try dsimp only at hSw
              go_simp
              try with_reducible rfl
            try simp only [Act.put, List.setIfInBounds_toArray, List.set_cons_zero, List.set_cons_succ]
            refine wpAnyH_take (i := 11) (oi := ⟨some 89, .build 33 #[(0, .tmp 83), (1, .tmp 88)], _, _, _, none⟩) (v := ?_) rfl (by kernel_rfl) (by kernel_rfl) (by kernel_rfl) (fun _ _ _ h => h) (Or.inl ⟨by rfl, ?_⟩) (by assumption) ?_
            rotate_left
            · intro w hSw
              try dsimp only at hSw
              go_simp
              try with_reducible rfl
            try simp only [Act.put, List.setIfInBounds_toArray, List.set_cons_zero, List.set_cons_succ]
            refine wpAnyH_ready (rs := [12]) (by kernel_rfl) (by simp) ?_
            refine AllReadyH.cons (o := ⟨some 90, _, _, _, _, none⟩) rfl (fun K hK => ?_) AllReadyH.nil
            go_simp
            refine hK.out _ _ (ST.out ((HD.out.trans HBQ.out).alloc (HD.out.trans HBQ.out).size _)) (fun hHeld2 => ?_)
            clear hK K
            try simp only [Act.put, List.setIfInBounds_toArray, List.set_cons_zero, List.set_cons_succ]
            refine wpAnyH_ready (rs := [13]) (by kernel_rfl) (by simp) ?_
            refine AllReadyH.cons (o := ⟨some 91, _, _, _, _, none⟩) rfl (fun K hK => ?_) AllReadyH.nil
            apply oq_app_any (wr := wq) (e := 33) (cs := #[.int .i64 id, .int .i64 (now + T)]) (B := w1.heap.size) (v := vq) (hown := HOQ.out) (H := wq.heap.size) (hH := rfl) (hlen := lenC) (hm := lenD) (hB := HBQ.out.size) (hi := Try.infoRw) (ht := Try.underlying26)
            all_goals (try (first | rfl | decide | (intro u hu; simp at hu; rcases hu with rfl | rfl <;> rfl)))
            intro g' cap' w9 h1 h2 h3
            have G1 := Kp.mk h1
            have G2 := Kp.mk (grown_bel HOQ.out HBQ.out.size h2)
            clear h1 h2 h3
            refine hK.out _ _ (ST.out ((HD.out.trans HBQ.out).trans G2.out)) (fun hHeld2 => ?_)
            clear hK K
            try simp only [Act.put, List.setIfInBounds_toArray, List.set_cons_zero, List.set_cons_succ]
            refine wpAnyH_take (i := 14) (oi := ⟨some 6, .assign (.tmp 91), _, _, _, none⟩) (v := ?_) rfl (by kernel_rfl) (by kernel_rfl) (by kernel_rfl) (fun _ _ _ h => h) (Or.inl ⟨by rfl, ?_⟩) (by assumption) ?_
            rotate_left
            · intro w hSw
              try dsimp only at hSw
              go_simp
              try with_reducible rfl
            try simp only [Act.put, List.setIfInBounds_toArray, List.set_cons_zero, List.set_cons_succ]
            refine wpAnyH_done (by kernel_rfl) ?_ _
            go_wp2_with fail
            have HC9 := Kp.mk (HC1.out.below ((HD.out.trans HBQ.out).trans G2.out))
            refine (cnow_any b m (k + 1) now _ _ HC9.out).mono ?_
            rintro e w10 ⟨rfl, rfl⟩
            go_wp2_with fail
            have HN := Kp.mk (show CpI b m (k + 1) now (.slice (some ⟨g', 0, none⟩) ((wth X id).length + 1) cap') (wth X id ++ [(id, now + T)]) w w9 from
              { ck := by rw [← fnd_set]; exact HC9.out, r := rdr_own (by rw [show (wth X id ++ [(id, now + T)]).length = (wth X id).length + 1 by simp, show rwL (wth X id ++ [(id, now + T)]) = rwL (wth X id) ++ [.int .i64 id, .int .i64 (now + T)] by simp [rwL, rwC]]; exact G1.out), once := once_app HI.out.once _ _, ln := (by have := HXL.out; have := HI.out.ln; simp; omega), k1 := (by omega), wf := fun p hp => (by
                  rcases List.mem_append.1 hp with h | h
                  · exact HI.out.wf p (mem_wth.1 h).1
                  · rw [List.mem_singleton] at h; subst h; exact HW1.out), bd := fun p hp => (by
                  rcases List.mem_append.1 hp with h | h
                  · exact HI.out.bd p (mem_wth.1 h).1
                  · rw [List.mem_singleton] at h; subst h; have := HI.out.n0; have := HI.out.n1; have := HTI.out; exact ⟨by dsimp only; omega, by dsimp only; omega⟩), n0 := HI.out.n0, n1 := (by have := HI.out.n1; omega), bl := HBW.out.trans (((HD.out.trans HBQ.out).trans G2.out).mono HBW.out.size), hb := HI.out.hb, hm := HI.out.hm })
            go_roundw
            case rel => exact ⟨k + 1, now, _, by omega, by go_num, rfl, HN.out⟩
            case measure => simp [intOf]; omega
          · have e1 : (d == 1) = false := by simp [hd1]
            by_cases hd2 : d = 2
            · subst hd2
              go_wp2_with fail
              refine (cstop_any b m k now (fnd X) id _ HJ.out.ck HW1.out).mono ?_
              rintro e w1 ⟨⟨v0, rfl⟩, hc, hk1⟩
              rw [fnd_del] at hc
              have HC1 := Kp.mk hc
              have HK1 := Kp.mk (hk1.mono (G := fun j => j ≠ b ∧ j ≠ m) fun j h => h.2)
              have HRW := Kp.mk (rdr_keep HJ.out.r HJ.out.ck HK1.out)
              have hbx1 := (hk1.block _ (blk_lt HBX.out) (fun e => by have := HML.out; omega)).trans HBX.out
              have x1 := blk_cell (i := 1) hbx1 rfl
              have hK1 := hk1.below (B := w.heap.size) HJ.out.bl.size (fun j h => by have := HI.out.hm; omega)
              have HBW := Kp.mk (HJ.out.bl.trans hK1)
              clear hc hk1 hbx1 hK1 b0 b1 b2 c1 c2 c3
              go_wp2_with fail
              refine (rwth_any _ X id _ HRW.out hX).mono ?_
              rintro e w2 ⟨v2, rfl, ho2, hb2⟩
              have HO2 := Kp.mk ho2
              have HB2 := Kp.mk hb2
              have HC2 := Kp.mk (HC1.out.below hb2)
              clear ho2 hb2
              go_wp2_with fail
              refine (cnow_any b m k now _ _ HC2.out).mono ?_
              rintro e w10 ⟨rfl, rfl⟩
              go_wp2_with fail
              have HN := Kp.mk (show CpI b m (k + 1) now v2 (wth X id) w w2 from
                { ck := ck_more HC2.out (Nat.le_succ _), r := rdr_own HO2.out, once := once_wth HI.out.once _, ln := (by have := wth_len X id; have := HI.out.ln; omega), k1 := (by omega), wf := fun p hp => HI.out.wf p (mem_wth.1 hp).1, bd := fun p hp => HI.out.bd p (mem_wth.1 hp).1, n0 := HI.out.n0, n1 := (by have := HI.out.n1; omega), bl := HBW.out.trans (HB2.out.mono HBW.out.size), hb := HI.out.hb, hm := HI.out.hm })
              go_roundw
              case rel => exact ⟨k + 1, now, _, by omega, by go_num, rfl, HN.out⟩
              case measure => simp [intOf]; omega
            · have e2 : (d == 2) = false := by simp [hd2]
              by_cases hd3 : d = 3
              · subst hd3
                have hbd : ∀ v, fnd X id = some v → -1000000000000000000 ≤ v - now ∧ v - now ≤ 1000000000000000000 := fun v h => by
                  have := HI.out.bd _ (fnd_mem h)
                  have := HI.out.n0
                  have := HI.out.n1
                  dsimp only at *
                  omega
                have HLF := Kp.mk (cleft_any b m k now (fnd X) id _ HJ.out.ck HW1.out hbd)
                have HLR := Kp.mk (rleft41_any _ X id now _ HJ.out.r hX (fun p hp => by
                  have := HI.out.bd _ hp
                  have := HI.out.n0
                  have := HI.out.n1
                  omega))
                have n7 : (lfV (fnd X) id now != lfV (fnd X) id now) = false := by simp
                have n8 : ((fnd X id).isSome != (fnd X id).isSome) = false := by simp
                generalize lfV (fnd X) id now = Z at *
                generalize (fnd X id).isSome = Y at *
                clear hbd
                go_wp2_with fail
                refine HLF.out.mono ?_
                rintro e w2 ⟨rfl, rfl⟩
                go_wp2_with fail
                refine HLR.out.mono ?_
                rintro e w2 ⟨rfl, rfl⟩
                go_wp2_with fail
                refine (cnow_any b m k now _ _ HJ.out.ck).mono ?_
                rintro e w10 ⟨rfl, rfl⟩
                go_wp2_with fail
                have HN := Kp.mk (HJ.out.next (by omega))
                go_roundw
                case rel => exact ⟨k + 1, now, _, by omega, by go_num, rfl, HN.out⟩
                case measure => simp [intOf]; omega
              · have e3 : (d == 3) = false := by simp [hd3]
                have ht := tkI_in x
                have HTK := Kp.mk (fun (w : World) (h : CK b m k now (fnd X) w) => ctick_any b m k now (fnd X) x w h (by omega) hnb)
                have HWI := Kp.mk (fun (w : World) => within41_any x w)
                have hnn : now + tkI x ≤ 281474976710656 + (k + 1 : Nat) * 1073741824 := by have := HI.out.n1; omega
                generalize tkI x = T at *
                have hwr : IntKind.i64.wrap (now + T) = now + T := by
                  simp [IntKind.wrap, IntKind.signed, IntKind.bits, wrap64]; omega
                have HNN := Kp.mk hnn
                have HN0 := Kp.mk (show -281474976710656 ≤ now + T by have := HI.out.n0; omega)
                have HDU := Kp.mk (fun (w : World) (h : RdR w (.slice av X.length cv) X) => rdue_any (.slice av X.length cv) X (now + T) w h hX)
                have n10 : (now + T != now + T) = false := by simp
                have HB2 := Kp.mk b2
                clear hnb ht hnn hX n9
                go_wp2_with fail
                refine (HWI.out _).mono ?_
                rintro e w2 ⟨rfl, rfl⟩
                go_wp2_with fail
                refine (HDU.out _ HJ.out.r).mono ?_
                rintro e w3 ⟨ov, v3, rfl, ho, hr, hb⟩
                have HO3 := Kp.mk ho
                have HR3 := Kp.mk hr
                have HB3 := Kp.mk hb
                have HC3 := Kp.mk (HJ.out.ck.below hb)
                have x2 := (hb.cell (p := ⟨wr.heap.size, 2, none⟩) (blk_lt HBX.out)).trans b2
                clear ho hr hb b2
                go_wp2_with fail
                refine (HTK.out _ HC3.out).mono ?_
                rintro e w4 ⟨va, l, rfl, ho4, hc4, hk4, hp4, hw4, hm4, hn4⟩
                have hls := due_same HI.out.once HI.out.wf hp4 hw4 hm4
                have HO4 := Kp.mk ho4
                have HC4 := Kp.mk hc4
                have HR4 := Kp.mk (rdr_keep HR3.out HC3.out hk4)
                have HML3 := Kp.mk (HC3.out.mlt)
                have HBL3 := Kp.mk (blk_lt HC3.out.hb)
                have HOV := Kp.mk (own_kk HO3.out hk4 (fun j hj => by
                  have h1 := HJ.out.ck.mlt
                  have h2 := blk_lt HJ.out.ck.hb
                  omega))
                have HL4 := Kp.mk hn4
                have HK4 := Kp.mk (hk4.below (B := w.heap.size) (by have := HJ.out.bl.size; have := HB3.out.size; omega) (fun j h => by have := HI.out.hm; have := HI.out.hb; omega))
                subst hls
                clear ho4 hc4 hk4 hp4 hw4 hm4 hn4
                go_wp2_with fail
                refine (sameI_eq _ _ _ _ (rdn_own HO4.out) (rdn_own HOV.out) (by have := HL4.out; omega)).mono ?_
                rintro e w5 ⟨rfl, hb5⟩
                have HB5 := Kp.mk hb5
                have HC5 := Kp.mk (HC4.out.below hb5)
                have HR5 := Kp.mk (HR4.out.below hb5)
                clear hb5
                go_wp2_with fail
                refine (cnow_any b m k _ _ _ HC5.out).mono ?_
                rintro e w10 ⟨rfl, rfl⟩
                go_wp2_with fail
                have HRS := Kp.mk (dueS_any _ X (now + T) rfl HI.out.once).rest
                rw [HRS.out] at HR5
                have HN := Kp.mk (show CpI b m (k + 1) (now + T) v3 (X.filter (fun p => !decide (p.2 ≤ now + T))) w w5 from
                  { ck := (by
                      have h9 : fnd (X.filter (fun p => !decide (p.2 ≤ now + T))) = cutF (fnd X) (now + T) := funext fun j => fnd_rest HI.out.once _ j
                      rw [h9]
                      exact ck_more HC5.out (Nat.le_succ _)), r := HR5.out, once := List.Pairwise.filter _ HI.out.once, ln := (by have := List.length_filter_le (fun p : Rw => !decide (p.2 ≤ now + T)) X; have := HI.out.ln; omega), k1 := (by omega), wf := fun p hp => HI.out.wf p (rest_mem hp), bd := fun p hp => HI.out.bd p (rest_mem hp), n0 := HN0.out, n1 := HNN.out, bl := ((HJ.out.bl.trans (HB3.out.mono HJ.out.bl.size)).trans HK4.out).trans (HB5.out.mono ((HJ.out.bl.trans (HB3.out.mono HJ.out.bl.size)).trans HK4.out).size), hb := HI.out.hb, hm := HI.out.hm })
                go_roundw
                case rel => exact ⟨k + 1, _, _, by omega, by go_num, rfl, HN.out⟩
                case measure => simp [intOf]; omega
        · clear q1
          go_wp2_with fail
          refine (lives41_any _).mono ?_
          rintro e w2 ⟨rfl, hb2⟩
          go_wp2_with fail
          go_ret
          exact ⟨rfl, HI.out.bl.trans (hb2.mono HI.out.bl.size)⟩
theorem cplays_arg (v0 v1 : Value) (w : World) (h0 : Arg Try.prog w 3 v0) (h1 : Arg Try.prog w 22 v1) :
    Calls Try.prog 3 #[v0, v1] w fun e w' => e = .returned (.bool true) ∧ Below w.heap.size w w' := by
  obtain ⟨n, rfl, _⟩ := h0.int Try.underlying3
  obtain ⟨ps, hv, hz⟩ := cact_arg v1 w h1
  exact cplays_walk n v1 ps w hv hz
end Go.Proofs.Ytpgnekejemockaa
