/- Layer 42: the law WirePlays. Made by bin/mkwil.py. -/
import Derived.Test.YtpgnekejemockaaWik
import Derived.Test.YtpgnekejemockaaQs
namespace Go.Proofs.Ytpgnekejemockaa
open Go.RowKit
set_option linter.unusedVariables false
set_option linter.unusedSimpArgs false

theorem WD.below {F0 A : Nat → Prop} {b kb qb qg c M : Nat} {x : Wst} {w w2 : World} (h : WD F0 A b kb qb qg c M x w) (hb : Below w.heap.size w w2) : WD F0 A b kb qb qg c M x w2 :=
  ⟨h.wr.below hb, fun k hk => Nat.lt_of_lt_of_le (h.al k hk) hb.size, h.an, h.lk.below hb, h.ry.kept (hb.block c (blk_lt h.ry.blk)), h.fc, fun k hk => Nat.lt_of_lt_of_le (h.fl k hk) hb.size⟩
theorem WD.wk {F0 A : Nat → Prop} {b kb qb qg c M : Nat} {x : Wst} {w w2 : World} (h : WD F0 A b kb qb qg c M x w) (hw : WK A b x.rd x.en x.s1 x.s2 w w2) : WD F0 A b kb qb qg c M x w2 :=
  ⟨hw.1, fun k hk => Nat.lt_of_lt_of_le (h.al k hk) hw.2.size, h.an, h.lk.kpt hw.2 fun k hk => .inr hk, h.ry.kept (hw.2.block c (blk_lt h.ry.blk) (fun ha => h.an c ha h.fc)), h.fc, fun k hk => Nat.lt_of_lt_of_le (h.fl k hk) hw.2.size⟩
/-- What holds at each round's head. -/
structure WI (b kb qb qg c M : Nat) (x : Wst) (w wr : World) : Prop where
  d : ∃ A, WD (fun k => k < w.heap.size ∨ k = c) A b kb qb qg c M x wr
  kp : Kpt (fun k => k < w.heap.size) w wr
  wc : w.heap.size ≤ c
theorem WI.blk {b kb qb qg c M : Nat} {x : Wst} {w wr : World} (h : WI b kb qb qg c M x w wr) : wr.heap[c]? = some (.cells #[(x.ld b kb).wp, (x.ld b kb).kp, .string (x.ld b kb).L, .int .i64 (x.ld b kb).many, .bool (x.ld b kb).en, .string (x.ld b kb).took, .string (oB x.S), .string (oB x.O), .int .i64 M, .bool x.e0, .bool x.e1] 74 (0, 0)) := by
  obtain ⟨A, h⟩ := h.d
  exact h.ry.blk
theorem WI.bel {b kb qb qg c M : Nat} {x : Wst} {w wr : World} (h : WI b kb qb qg c M x w wr) : Below w.heap.size w wr := h.kp.below (Nat.le_refl _) fun k hk => hk
theorem WI.below {b kb qb qg c M : Nat} {x : Wst} {w wr w2 : World} (h : WI b kb qb qg c M x w wr) (hb : Below wr.heap.size wr w2) : WI b kb qb qg c M x w w2 := by
  obtain ⟨A, hd⟩ := h.d
  exact ⟨⟨A, hd.below hb⟩, h.kp.trans (Kpt.of hb), h.wc⟩
theorem WI.left {b kb qb qg c M : Nat} {x : Wst} {w : World} (hr : x.rd ≤ x.s1.size) (hs : x.s1.size ≤ 90000) (wr : World) (h : WI b kb qb qg c M x w wr) :
    Calls Try.prog 32 #[.pointer (some ⟨b, 0, none⟩)] wr fun e w' => e = .returned (.int .i64 ((x.ld b kb).L.size : Nat)) ∧ WI b kb qb qg c M x w w' := by
  obtain ⟨⟨A, hd⟩, hk, hc⟩ := h
  have hz : (x.ld b kb).L.size = x.s1.size - x.rd := by show (x.s1.extract x.rd x.s1.size).size = _; simp
  rw [hz]
  exact (wLeft A b x.rd x.en x.s1 x.s2 wr hd.wr hr (by omega)).mono fun _ _ h2 => ⟨h2.1, ⟨A, hd.wk h2.2⟩, hk.trans (h2.2.2.mono fun k hk ha => hd.an k ha (.inl hk)), hc⟩
theorem WI.sent {b kb qb qg c M : Nat} {x : Wst} {w : World} (wr : World) (h : WI b kb qb qg c M x w wr) :
    Calls Try.prog 33 #[.pointer (some ⟨b, 0, none⟩)] wr fun e w' => e = .returned (.string (x.ld b kb).took) ∧ WI b kb qb qg c M x w w' := by
  obtain ⟨⟨A, hd⟩, hk, hc⟩ := h
  exact (wSent A b x.rd x.en x.s1 x.s2 wr hd.wr).mono fun _ _ h2 => ⟨h2.1, ⟨A, hd.wk h2.2⟩, hk.trans (h2.2.2.mono fun k hk ha => hd.an k ha (.inl hk)), hc⟩
theorem WI.kleft {b kb qb qg c M : Nat} {x : Wst} {w : World} (wr : World) (h : WI b kb qb qg c M x w wr) :
    Calls Try.prog 34 #[.pointer (some ⟨kb, 0, none⟩)] wr fun e w' => e = .returned (.string (oB x.S)) ∧ WI b kb qb qg c M x w w' := by
  obtain ⟨A, hd⟩ := h.d
  exact (lk_left _ _ _ _ _ _ _ _ _ _ hd.lk).mono fun _ _ h2 => ⟨h2.1, h.below h2.2⟩
theorem WI.dry {b kb qb qg c M : Nat} {x : Wst} {w : World} (wr : World) (h : WI b kb qb qg c M x w wr) :
    Calls Try.prog 35 #[.pointer (some ⟨kb, 0, none⟩)] wr fun e w' => e = .returned (.bool (x.e0 && decide (x.S = []))) ∧ WI b kb qb qg c M x w w' := by
  obtain ⟨A, hd⟩ := h.d
  exact (lk_dry _ _ _ _ _ _ _ _ _ _ hd.lk).mono fun _ _ h2 => ⟨h2.1, h2.2 ▸ h⟩
theorem WI.waits {b kb qb qg c M : Nat} {x : Wst} {w : World} (wr : World) (h : WI b kb qb qg c M x w wr) :
    Calls Try.prog 36 #[.pointer (some ⟨kb, 0, none⟩)] wr fun e w' => e = .returned (.int .i64 ((oB x.O).size : Nat)) ∧ WI b kb qb qg c M x w w' := by
  obtain ⟨A, hd⟩ := h.d
  rw [oB_size]
  exact (lk_waits _ _ _ _ _ _ _ _ _ _ hd.lk).mono fun _ _ h2 => ⟨h2.1, h2.2 ▸ h⟩
/-- How large all can grow. -/
structure Wst.Ok (k : Nat) (x : Wst) : Prop where
  a : x.s1.size ≤ 300 * k
  b : x.s2.size + x.O.length ≤ 300 * k
  r : x.rd ≤ x.s1.size
theorem Wst.Ok.act {k : Nat} {x : Wst} (h : x.Ok k) (M : Nat) (op n : Int) (t : ByteArray) (ht : t.size ≤ 300) : (x.act M op n t).Ok (k + 1) := by
  obtain ⟨ha, hb, hr⟩ := h
  have hu := giveN_leW x.e0 x.e1 M x.S (rdT x.s1 x.rd (x.rU n))
  have hz : (rdT x.s1 x.rd (x.rU n)).size ≤ x.s1.size - x.rd := by unfold rdT; simp; omega
  have hg : x.rG M n ≤ x.s1.size - x.rd := Nat.le_trans hu hz
  unfold Wst.act
  by_cases o1 : op = 1
  · rw [if_pos o1]
    cases x.en
    · exact ⟨by simp [ByteArray.size_append]; omega, by simp; omega, by simp [ByteArray.size_append]; omega⟩
    · exact ⟨by simp; omega, by simp; omega, by simpa using hr⟩
  rw [if_neg o1]
  by_cases o2 : op = 2
  · rw [if_pos o2]; exact ⟨by simp; omega, by simp; omega, hr⟩
  rw [if_neg o2]
  by_cases o3 : op = 3
  · rw [if_pos o3]; exact ⟨by simp [Wst.read]; omega, by simp [Wst.read]; omega, by simp [Wst.read]; omega⟩
  rw [if_neg o3]
  by_cases o4 : op = 4
  · rw [if_pos o4]
    refine ⟨by simp; omega, ?_, hr⟩
    show x.s2.size + (wroteO x.e1 x.O t).length ≤ _
    unfold wroteO
    split
    · omega
    · rw [List.length_append, ← ba_size']; omega
  rw [if_neg o4]
  by_cases o5 : op = 5
  · rw [if_pos o5]
    refine ⟨by simp [Wst.grant]; omega, ?_, hr⟩
    show (x.s2 ++ oB (x.O.take (x.gU n))).size + (x.O.drop (x.gU n)).length ≤ _
    have hgu : x.gU n ≤ x.O.length := Nat.min_le_right _ _
    rw [ByteArray.size_append, oB_size, List.length_take, List.length_drop]; omega
  rw [if_neg o5]
  by_cases o6 : op = 6
  · rw [if_pos o6]; exact ⟨by simp; omega, by simp; omega, hr⟩
  rw [if_neg o6]
  by_cases o7 : op = 7
  · rw [if_pos o7]; exact ⟨by simp; omega, by simp; omega, hr⟩
  rw [if_neg o7]
  exact ⟨by omega, by omega, hr⟩
theorem app_consW {α : Type} (a : α) (l m : List α) : List.append (a :: l) m = a :: List.append l m := rfl
theorem app_nilW {α : Type} (m : List α) : List.append [] m = m := rfl
theorem empty_orW (l : List UInt8) : l = [] ∨ (decide (l = []) = false ∧ ¬ ((oB l).toList = []) ∧ (oB l).toList.isEmpty = false) := by
  cases l with
  | nil => exact .inl rfl
  | cons c l => exact .inr ⟨by simp, by unfold oB; rw [ba_mk_emp]; simp, by unfold oB; rw [ba_mk_emp]; rfl⟩
set_option maxRecDepth 100000 in
set_option maxHeartbeats 4000000 in
theorem wplays_walk (m : Int) (v : Value) (ps : List QA) (w : World) (hv : RdL qactC 3 w v ps) (hz : ∀ p ∈ ps, (Lit.int .i64 p.1).wf = true ∧ (Lit.int .i64 p.2.1).wf = true ∧ p.2.2.size ≤ maxLen) :
    Calls Try.prog 6 #[.int .i64 m, v] w fun e w' => e = .returned (.bool true) ∧ Below w.heap.size w w' := by
  have HV := Kp.mk hv
  have HZ := Kp.mk hz
  obtain ⟨a, cap, rfl, hc1, hc2, -⟩ := hv
  clear hz hc2
  by_cases hin : 0 ≤ m ∧ m ≤ 2000
  · obtain ⟨most, rfl⟩ := Int.eq_ofNat_of_zero_le hin.1
    have hm : most ≤ 2000 := by omega
    have hn1 : decide ((most : Int) < 0) = false := by simp
    have hn2 : decide ((2000 : Int) < (most : Int)) = false := by simp; omega
    clear hin
    go_enter Try.func6, Try.ntmps6
    go_wp2_with fail
    refine (few42_any _ ps _ HV.out (fun p hp => (HZ.out p hp).2.2)).mono ?_
    rintro e w1 ⟨ok, rfl, hb1, hok⟩
    have HB1 := Kp.mk hb1
    have HOK := Kp.mk hok
    clear hb1 hok
    cases ok
    · go_wp2_with fail
      refine (lives42_any _).mono ?_
      rintro e w2 ⟨rfl, hb2⟩
      go_wp2_with fail
      go_ret
      exact ⟨rfl, HB1.out.trans (hb2.mono HB1.out.size)⟩
    · have hpl := (HOK.out rfl).1
      have HPS := Kp.mk (HOK.out rfl).2
      go_wp2_with fail
      refine (wNew w1).mono ?_
      rintro e w2 ⟨b, rfl, h2, hbs, hb2⟩
      have HW2 := Kp.mk h2
      have HBS := Kp.mk hbs
      have HB2 := Kp.mk (HB1.out.trans (hb2.mono HB1.out.size))
      clear h2 hbs hb2
      go_wp2_with fail
      refine (lk_new most _ (by omega)).mono ?_
      rintro e w3 ⟨kb, qb, qg, rfl, hq3, hb3⟩
      have hbw : w.heap.size ≤ w2.heap.size := HB2.out.size
      have HB3 := Kp.mk (HB2.out.trans (hb3.mono hbw))
      have hx0 : Wst.ld b kb ⟨.empty, .empty, 0, false, [], [], false, false⟩ = ⟨.pointer (some ⟨b, 0, none⟩), .pointer (some ⟨kb, 0, none⟩), .empty, 0, false, .empty⟩ := rfl
      have HI := Kp.mk (show WI b kb qb qg w3.heap.size most ⟨.empty, .empty, 0, false, [], [], false, false⟩ w (w3.alloc (.cells #[.pointer (some ⟨b, 0, none⟩), .pointer (some ⟨kb, 0, none⟩), .string .empty, .int .i64 0, .bool false, .string .empty, .string .empty, .string .empty, .int .i64 most, .bool false, .bool false] 74)) from by
        have hlt := HW2.out.lt
        have hsz := hb3.size
        have hal : Below w3.heap.size w3 (w3.alloc (.cells #[.pointer (some ⟨b, 0, none⟩), .pointer (some ⟨kb, 0, none⟩), .string .empty, .int .i64 0, .bool false, .string .empty, .string .empty, .string .empty, .int .i64 most, .bool false, .bool false] 74)) := (Below.refl _ _).alloc (Nat.le_refl _) _
        have hs1 := HB1.out.size
        have hbs := HBS.out
        refine ⟨⟨fun k => k = b, (HW2.out.below hb3).below hal, fun k hk => ?_, fun k hk hf => ?_, (hq3.addAll (G := fun k => (k < w.heap.size ∨ k = w3.heap.size) ∨ k = b) fun k hk => ?_).below hal, ⟨heap_alloc_new w3 _⟩, .inr rfl, fun k hk => ?_⟩, (Kpt.of HB3.out).alloc _, HB3.out.size⟩
        · simp; omega
        · omega
        · omega
        · simp; omega)
      have c0 := blk_cell (i := 0) HI.out.blk rfl
      have c1 := blk_cell (i := 1) HI.out.blk rfl
      clear hb3 hq3 hx0
      go_wp2_with fail
      go_loopw [41] (fun i wr => ∃ (k : Nat) (x : Wst), k ≤ ps.length ∧ i = .int .i64 k ∧ x.Ok k ∧ WI b kb qb qg w3.heap.size most x w wr) (fun i _ => ps.length - (intOf i).toNat)
      case atStart => exact ⟨0, ⟨.empty, .empty, 0, false, [], [], false, false⟩, by omega, rfl, ⟨by decide, by decide, by decide⟩, HI.out⟩
      case round =>
        obtain ⟨k, x, hk, rfl, hxo, hinv⟩ := hrel
        have HI := Kp.mk hinv
        have hsz := hinv.bel.size
        have hcl := blk_lt hinv.blk
        clear hinv c0 c1
        by_cases hlt : k < ps.length
        · obtain ⟨g, o, rfl, hgl, d0⟩ := qact_cells (HV.out.below HI.out.bel) (by omega)
          obtain ⟨c1, c2, c3⟩ := d0 k hlt
          have m1 := HPS.out ps[k] (List.getElem_mem hlt)
          have q0 : (0 : Int) ≤ (k : Int) := by omega
          have q1 : (k : Int) < (ps.length : Int) := by omega
          clear d0
          generalize ps[k].1 = op at *
          generalize ps[k].2.1 = cn at *
          generalize ps[k].2.2 = tx at *
          have hal : Below wr.heap.size wr (wr.alloc (.cells #[.int .i64 op, .int .i64 cn, .string tx] 76)) := (Below.refl _ _).alloc (Nat.le_refl _) _
          have HST := Kp.mk (HI.out.below (hal.trans ((gdrewN _ 1).mono (by simp))))
          have hx2 := hxo.act most op cn tx m1
          have hxa := hxo.a
          have hxb := hxo.b
          have hxr := hxo.r
          have HX2 := Kp.mk hx2
          clear hxo hx2 hal
          go_wp2_with fail
          refine wp_region_any (by kernel_rfl) ?_
          change wpAny _ _ _ _ _ _ _ (World.drew _)
          refine wpAny_take (i := 0) (v := .pointer (some ⟨w3.heap.size, 0, none⟩)) rfl (by kernel_rfl) (by kernel_rfl) (by kernel_rfl) (fun _ _ _ h => h) (Or.inl ⟨by rfl, ?_⟩) ?_
          · intro w
            go_simp
          refine wpAny_ready (rs := [1]) (by kernel_rfl) (by simp) ?_
          refine AllReady.cons rfl (fun K hK => ?_) AllReady.nil
          go_simp
          refine hK _ _ ?_
          clear hK K
          refine wpAny_ready (rs := [2]) (by kernel_rfl) (by simp) ?_
          refine AllReady.cons rfl (fun K hK => ?_) AllReady.nil
          go_simp
          obtain ⟨A, hd⟩ := HST.out.d
          refine (act42_any (fun k => k < w.heap.size ∨ k = w3.heap.size) A b kb qb qg w3.heap.size most x op cn tx _ hd hm (by omega) (by omega) (by omega) hxr (by omega)).mono ?_
          rintro e w4 ⟨rfl, hto⟩
          refine hK _ _ ?_
          clear hK K
          have hin : WI b kb qb qg w3.heap.size most (x.act most op cn tx) w w4 := by
            obtain ⟨A2, h1, h2⟩ := hto
            exact ⟨⟨A2, h1⟩, HST.out.kp.trans (h2.mono fun k hk => ⟨.inl hk, by have := HI.out.wc; omega⟩), HI.out.wc⟩
          clear hto hd
          generalize x.act most op cn tx = x2 at *
          have HLF := Kp.mk (WI.left (b := b) (kb := kb) (qb := qb) (qg := qg) (c := w3.heap.size) (M := most) (x := x2) (w := w) HX2.out.r (by have := HX2.out.a; omega))
          have HSE := Kp.mk (WI.sent (b := b) (kb := kb) (qb := qb) (qg := qg) (c := w3.heap.size) (M := most) (x := x2) (w := w))
          have HKL := Kp.mk (WI.kleft (b := b) (kb := kb) (qb := qb) (qg := qg) (c := w3.heap.size) (M := most) (x := x2) (w := w))
          have HDR := Kp.mk (WI.dry (b := b) (kb := kb) (qb := qb) (qg := qg) (c := w3.heap.size) (M := most) (x := x2) (w := w))
          have HWT := Kp.mk (WI.waits (b := b) (kb := kb) (qb := qb) (qg := qg) (c := w3.heap.size) (M := most) (x := x2) (w := w))
          have p0 := fun p : InS (WI b kb qb qg w3.heap.size most x2 w) => blk_cell (i := 0) p.ok.blk rfl
          have p1 := fun p : InS (WI b kb qb qg w3.heap.size most x2 w) => blk_cell (i := 1) p.ok.blk rfl
          have p2 := fun p : InS (WI b kb qb qg w3.heap.size most x2 w) => blk_cell (i := 2) p.ok.blk rfl
          have p5 := fun p : InS (WI b kb qb qg w3.heap.size most x2 w) => blk_cell (i := 5) p.ok.blk rfl
          have p6 := fun p : InS (WI b kb qb qg w3.heap.size most x2 w) => blk_cell (i := 6) p.ok.blk rfl
          have p7 := fun p : InS (WI b kb qb qg w3.heap.size most x2 w) => blk_cell (i := 7) p.ok.blk rfl
          have p9 := fun p : InS (WI b kb qb qg w3.heap.size most x2 w) => blk_cell (i := 9) p.ok.blk rfl
          have HIN := Kp.mk hin
          haveI hne : Nonempty (InS (WI b kb qb qg w3.heap.size most x2 w)) := ⟨⟨_, hin⟩⟩
          clear hin
          have HSB := empty_orW x2.S
          have oe : (oB []).toList.isEmpty = true := by unfold oB; rw [ba_mk_emp]; rfl
          rw [show (x2.ld b kb).wp = .pointer (some ⟨b, 0, none⟩) from rfl] at p0
          rw [show (x2.ld b kb).kp = .pointer (some ⟨kb, 0, none⟩) from rfl] at p1
          generalize hgL : (x2.ld b kb).L = L2 at p2 HLF
          generalize hgT : (x2.ld b kb).took = T2 at p5 HSE
          generalize hgS : x2.S = S2 at p6 HKL HDR HSB
          generalize hgO : x2.O = O2 at p7 HWT
          generalize hg0 : x2.e0 = g0 at p9 HDR
          clear hgL hgT hgS hgO hg0
          cases g0
          case' true => rcases HSB with rfl | ⟨s1, s2, s3⟩
          all_goals
            refine any_in _ 3 (by kernel_rfl) rfl (by kernel_rfl) (by kernel_rfl) HIN.out ?_
            simp only [app_consW, app_nilW, List.drop_succ_cons, List.drop_zero]
            repeat (go_big_quiet_step ((first
            | (go_at_call 32; exact call_in fun w h => (HLF.out _ h).mono fun _ _ h2 => h2)
            | (go_at_call 33; exact call_in fun w h => (HSE.out _ h).mono fun _ _ h2 => h2)
            | (go_at_call 34; exact call_in fun w h => (HKL.out _ h).mono fun _ _ h2 => h2)
            | (go_at_call 35; exact call_in fun w h => (HDR.out _ h).mono fun _ _ h2 => h2)
            | (go_at_call 36; exact call_in fun w h => (HWT.out _ h).mono fun _ _ h2 => h2))))
            refine wpQuiet_nil ?_
            intro _ hw'
            obtain ⟨wq, rfl⟩ := hw'
            go_wp2_with fail
            go_roundw
            case rel => exact ⟨k + 1, _, by omega, by go_num, HX2.out, wq.ok⟩
            case measure => simp [intOf]; omega
        · go_wp2_with fail
          refine (lives42_any _).mono ?_
          rintro e w4 ⟨rfl, hb4⟩
          go_wp2_with fail
          go_ret
          exact ⟨rfl, HI.out.bel.trans (hb4.mono hsz)⟩
  · go_enter Try.func6, Try.ntmps6
    have HIN := Kp.mk hin
    clear hin
    by_cases h1 : m < 0
    · have t1 : decide (m < 0) = true := decide_eq_true h1
      go_wp2_with fail
      refine (lives42_any _).mono ?_
      rintro e w4 ⟨rfl, hb4⟩
      go_wp2_with fail
      go_ret
      exact ⟨rfl, hb4⟩
    · have h2 : 2000 < m := by have := HIN.out; omega
      have t1 : decide (m < 0) = false := decide_eq_false h1
      have t2 : decide ((2000 : Int) < m) = true := decide_eq_true h2
      go_wp2_with fail
      refine (lives42_any _).mono ?_
      rintro e w4 ⟨rfl, hb4⟩
      go_wp2_with fail
      go_ret
      exact ⟨rfl, hb4⟩
theorem wplays_arg (v0 v1 : Value) (w : World) (h0 : Arg Try.prog w 3 v0) (h1 : Arg Try.prog w 62 v1) :
    Calls Try.prog 6 #[v0, v1] w fun e w' => e = .returned (.bool true) ∧ Below w.heap.size w w' := by
  obtain ⟨m, rfl, hm⟩ := h0.int Try.underlying3
  obtain ⟨ps, hv, hz⟩ := wacts_arg v1 w h1
  exact wplays_walk m v1 ps w hv hz
end Go.Proofs.Ytpgnekejemockaa
