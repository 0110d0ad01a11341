/- A link: what the laws ask; the law LinkPlays (layer 38). -/
import Derived.Test.YtlgeebclphcnjaaLkd
namespace Go.Proofs.Ytlgeebclphcnjaa
open Go.RowKit
set_option linter.unusedVariables false
set_option linter.unusedSimpArgs false

def LFew (ps : List QA) (w : World) (e : Ending) (w' : World) : Prop := ∃ ok : Bool, e = .returned (.bool ok) ∧ Below w.heap.size w w' ∧ (ok = true → ps.length ≤ 60 ∧ ∀ p ∈ ps, p.2.2.size ≤ 300)
set_option maxRecDepth 100000 in
set_option maxHeartbeats 1000000 in
theorem few38_any (v : Value) (ps : List QA) (w : World) (hv : RdL qactC 3 w v ps) (hz : ∀ p ∈ ps, p.2.2.size ≤ maxLen) :
    Calls Try.prog 16 #[v] w (LFew ps w) := by
  have HV := Kp.mk hv
  have HZ := Kp.mk hz
  obtain ⟨a, cap, rfl, hc1, hc2, -⟩ := hv
  have hll : ps.length ≤ 9223372036854775807 := by unfold maxLen at hc2; omega
  clear hz hc2
  by_cases h20 : 60 < ps.length
  · go_enter Try.func16, Try.ntmps16
    go_wp2_with fail
    go_ret
    exact ⟨false, rfl, Below.refl _ _, fun h => by cases h⟩
  · go_enter Try.func16, Try.ntmps16
    go_wp2_with fail
    go_loopw [10] (fun i wr => ∃ k : Nat, k ≤ ps.length ∧ i = .int .i64 k ∧ Below w.heap.size w wr ∧ ∀ (j : Nat) (h : j < ps.length), j < k → ps[j].2.2.size ≤ 300) (fun i _ => ps.length - (intOf i).toNat)
    case atStart => exact ⟨0, by omega, rfl, Below.refl _ _, fun j _ h => by omega⟩
    case round =>
      obtain ⟨k, hk, rfl, hb, hf⟩ := hrel
      have HB := Kp.mk hb
      have HF := Kp.mk hf
      have hsz := hb.size
      clear hb hf
      by_cases hlt : k < ps.length
      · obtain ⟨g, o, rfl, hgl, d0⟩ := qact_cells (HV.out.below HB.out) (by omega)
        obtain ⟨c1, c2, c3⟩ := d0 k hlt
        have m1 := HZ.out ps[k] (List.getElem_mem hlt)
        unfold maxLen at m1
        have q0 : (0 : Int) ≤ (k : Int) := by omega
        have q1 : (k : Int) < (ps.length : Int) := by omega
        clear d0
        by_cases h1 : 300 < ps[k].2.2.size
        · go_wp2_with fail
          go_ret
          exact ⟨false, rfl, by first | exact (HB.out.alloc hsz _) | exact (HB.out.alloc hsz _).setCell (by simp; omega) _, fun h => by cases h⟩
        · go_wp2_with fail
          go_roundw
          case rel => exact ⟨k + 1, by omega, by go_num, by first | exact (HB.out.alloc hsz _) | exact (HB.out.alloc hsz _).setCell (by simp; omega) _, fun j hj hjk => by
            by_cases hjj : j < k
            · exact HF.out j hj hjj
            · obtain rfl : j = k := by omega
              omega⟩
          case measure => simp [intOf]; omega
      · go_wp2_with fail
        go_ret
        refine ⟨true, rfl, HB.out, fun _ => ⟨by omega, fun p hp => ?_⟩⟩
        obtain ⟨j, hj, rfl⟩ := List.getElem_of_mem hp
        exact HF.out j hj (by omega)
theorem Try.fcellsLAct : Try.prog.cellsOf 41 = 3 := by kernel_rfl
theorem Try.fcellsLI : Try.prog.cellsOf 3 = 1 := by kernel_rfl
theorem Try.fcellsLS : Try.prog.cellsOf 9 = 1 := by kernel_rfl
theorem lacts_arg (v1 : Value) (w : World) (h1 : Arg Try.prog w 34 v1) : ∃ ps, RdL qactC 3 w v1 ps ∧ ∀ p ∈ ps, (Lit.int .i64 p.1).wf = true ∧ (Lit.int .i64 p.2.1).wf = true ∧ p.2.2.size ≤ maxLen :=
  h1.list (f := qactC) (Q := fun p => (Lit.int .i64 p.1).wf = true ∧ (Lit.int .i64 p.2.1).wf = true ∧ p.2.2.size ≤ maxLen) Try.underlying34 Try.fcellsLAct (by omega) fun E hE =>
    qact_of Try.underlying41 Try.underlying3 Try.underlying9 Try.fcellsLAct Try.fcellsLI Try.fcellsLS ⟨_, rfl, rfl, rfl⟩ ⟨_, rfl, rfl, rfl⟩ ⟨_, rfl, rfl, rfl⟩ hE
set_option maxRecDepth 100000 in
set_option maxHeartbeats 2000000 in
theorem lives38_any (w : World) :
    Calls Try.prog 18 #[] w fun e w' => e = .returned (.bool true) ∧ Below w.heap.size w w' := by
  go_enter Try.func18, Try.ntmps18
  go_wp2_with fail
  refine (lk_new 2 _ (by omega)).mono ?_
  rintro e w1 ⟨b, qb, qg, rfl, h1, hb1⟩
  have H1 := Kp.mk h1
  have HB1 := Kp.mk hb1
  clear h1 hb1
  go_wp2_with fail
  refine (lk_new_no (-1) _ (by omega)).mono ?_
  rintro e w2 ⟨rfl, rfl⟩
  go_wp2_with fail
  refine (lk_give _ _ _ _ _ _ _ _ _ ⟨#[97, 98, 99]⟩ _ H1.out (by decide)).mono ?_
  rintro e w2 ⟨rfl, h2, hk2⟩
  have H2 := Kp.mk (show LK (fun k => k < w.heap.size) b qb qg 2 [97, 98] [] false false w2 from h2)
  have HK2 := Kp.mk (show Kpt (fun k => k < w.heap.size) w w2 from (Kpt.of HB1.out).trans hk2)
  rw [show giveN false false 2 [] ⟨#[97, 98, 99]⟩ = 2 from rfl]
  clear h2 hk2
  go_wp2_with fail
  refine (lk_write _ _ _ _ _ _ _ _ _ ⟨#[120, 121, 122]⟩ _ H2.out (by decide) (fun k hk => Nat.lt_of_lt_of_le hk HK2.out.size)).mono ?_
  rintro e w3 ⟨rfl, h3, hk3⟩
  have H3 := Kp.mk (show LK (fun k => k < w.heap.size) b qb qg 2 [97, 98] [120, 121, 122] false false w3 from h3)
  have HK3 := Kp.mk (HK2.out.trans hk3)
  clear h3 hk3
  go_wp2_with fail
  refine (lk_free _ _ _ _ _ _ _ _ _ _ H3.out).mono ?_
  rintro e w4 ⟨rfl, n4, rfl⟩
  have H4 := Kp.mk (H3.out.drewN n4)
  have HK4 := Kp.mk (HK3.out.drewN n4)
  rw [show decide (([120, 121, 122] : List UInt8).length ≤ 2) = false from rfl]
  go_wp2_with fail
  refine (lk_take _ _ _ _ _ _ _ _ _ 1 _ H4.out).mono ?_
  rintro e w5 ⟨rfl, h5, hk5⟩
  have H5 := Kp.mk (show LK (fun k => k < w.heap.size) b qb qg 2 [97, 98] [121, 122] false false w5 from h5)
  have HK5 := Kp.mk (HK4.out.trans hk5)
  rw [show oB (([120, 121, 122] : List UInt8).take (1 : Int).toNat) = ⟨#[120]⟩ from rfl]
  clear h5 hk5
  go_wp2_with fail
  refine (lk_free _ _ _ _ _ _ _ _ _ _ H5.out).mono ?_
  rintro e w6 ⟨rfl, n6, rfl⟩
  have H6 := Kp.mk (H5.out.drewN n6)
  have HK6 := Kp.mk (HK5.out.drewN n6)
  rw [show decide (([121, 122] : List UInt8).length ≤ 2) = true from rfl]
  go_wp2_with fail
  refine (lk_waits _ _ _ _ _ _ _ _ _ _ H6.out).mono ?_
  rintro e w7 ⟨rfl, rfl⟩
  go_wp2_with fail
  go_ret
  exact ⟨rfl, HK6.out.below (Nat.le_refl _) (fun k hk => hk)⟩
/-- What holds at each round's head. -/
theorem LInvX : True := trivial
structure LInv (b qb qg c M : Nat) (x : Lst) (w wr : World) : Prop where
  k : LK (fun k => k < w.heap.size ∨ k = c) b qb qg M x.S x.O x.e0 x.e1 wr
  r : RL c M x.S x.O x.e0 x.e1 wr
  bel : Below w.heap.size w wr
  wc : w.heap.size ≤ c
theorem LInv.below {b qb qg c M : Nat} {x : Lst} {w wr w2 : World} (h : LInv b qb qg c M x w wr) (hb : Below wr.heap.size wr w2) : LInv b qb qg c M x w w2 :=
  ⟨h.k.below hb, h.r.kept (hb.block c (blk_lt h.r.blk)), h.bel.trans (hb.mono h.bel.size), h.wc⟩
theorem Lst.act_O (M : Nat) (x : Lst) (op n : Int) (t : ByteArray) : (x.act M op n t).O.length ≤ x.O.length + t.size := by
  unfold Lst.act
  repeat' split
  all_goals simp
  · unfold wroteO; split <;> simp [← ba_size']
  · omega
theorem empty_or (l : List UInt8) : l = [] ∨ (decide (l = []) = false ∧ ¬ ((oB l).toList = []) ∧ (oB l).toList.isEmpty = false) := by
  cases l with
  | nil => exact .inl rfl
  | cons c l => exact .inr ⟨by simp, by unfold oB; rw [ba_mk_emp]; simp, by unfold oB; rw [ba_mk_emp]; rfl⟩
theorem InS.at {S : World → Prop} (p : InS S) : S p.w := p.ok
set_option maxRecDepth 100000 in
set_option maxHeartbeats 4000000 in
theorem lplays_walk (m : Int) (v : Value) (ps : List QA) (w : World) (hv : RdL qactC 3 w v ps) (hz : ∀ p ∈ ps, (Lit.int .i64 p.1).wf = true ∧ (Lit.int .i64 p.2.1).wf = true ∧ p.2.2.size ≤ maxLen) :
    Calls Try.prog 4 #[.int .i64 m, v] w fun e w' => e = .returned (.bool true) ∧ Below w.heap.size w w' := by
  have HV := Kp.mk hv
  have HZ := Kp.mk hz
  obtain ⟨a, cap, rfl, hc1, hc2, -⟩ := hv
  clear hz hc2
  by_cases hin : 0 ≤ m ∧ m ≤ 2000
  · obtain ⟨most, rfl⟩ := Int.eq_ofNat_of_zero_le hin.1
    have hm : most ≤ 2000 := by omega
    have hn1 : decide ((most : Int) < 0) = false := by simp
    have hn2 : decide ((2000 : Int) < (most : Int)) = false := by simp; omega
    clear hin
    go_enter Try.func4, Try.ntmps4
    go_wp2_with fail
    refine (few38_any _ ps _ HV.out (fun p hp => (HZ.out p hp).2.2)).mono ?_
    rintro e w1 ⟨ok, rfl, hb1, hok⟩
    have HB1 := Kp.mk hb1
    have HOK := Kp.mk hok
    clear hb1 hok
    cases ok
    · have hn3 : decide ((0 : Int) ≤ (most : Int)) = true := by simp
      have hn4 : decide ((most : Int) ≤ 65536) = true := by simp; omega
      go_wp2_with fail
      refine (lives38_any _).mono ?_
      rintro e w2 ⟨rfl, hb2⟩
      go_wp2_with fail
      go_ret
      exact ⟨rfl, HB1.out.trans (hb2.mono HB1.out.size)⟩
    · have hpl := (HOK.out rfl).1
      have HPS := Kp.mk (HOK.out rfl).2
      go_wp2_with fail
      refine (lk_new most _ (by omega)).mono ?_
      rintro e w2 ⟨b, qb, qg, rfl, hq2, hb2⟩
      have hbw : w.heap.size ≤ w1.heap.size := HB1.out.size
      have HB2 := Kp.mk (HB1.out.trans (hb2.mono hbw))
      have HI := Kp.mk (show LInv b qb qg w2.heap.size most ⟨[], [], false, false⟩ w (w2.alloc (.cells #[.string ByteArray.empty, .string ByteArray.empty, .int .i64 most, .bool false, .bool false] 39)) from
        ⟨((hq2.mono (G := fun k => k < w.heap.size) fun k hk => Nat.lt_of_lt_of_le hk hbw).add w2.heap.size (Nat.le_refl _)).below ((Below.refl _ _).alloc (Nat.le_refl _) _), ⟨heap_alloc_new w2 _⟩, HB2.out.alloc HB2.out.size _, HB2.out.size⟩)
      clear hb2 hq2
      go_wp2_with fail
      go_loopw [42] (fun i wr => ∃ (k : Nat) (x : Lst), k ≤ ps.length ∧ i = .int .i64 k ∧ x.O.length ≤ 300 * k ∧ LInv b qb qg w2.heap.size most x w wr) (fun i _ => ps.length - (intOf i).toNat)
      case atStart => exact ⟨0, ⟨[], [], false, false⟩, by omega, rfl, by simp, HI.out⟩
      case round =>
        obtain ⟨k, x, hk, rfl, hxo, hinv⟩ := hrel
        have HI := Kp.mk hinv
        have hsz := hinv.bel.size
        have hcl := blk_lt hinv.r.blk
        clear hinv
        by_cases hlt : k < ps.length
        · obtain ⟨g, o, rfl, hgl, d0⟩ := qact_cells (HV.out.below HI.out.bel) (by omega)
          obtain ⟨c1, c2, c3⟩ := d0 k hlt
          have m1 := HPS.out ps[k] (List.getElem_mem hlt)
          have q0 : (0 : Int) ≤ (k : Int) := by omega
          have q1 : (k : Int) < (ps.length : Int) := by omega
          clear d0
          generalize ps[k].1 = op at *
          generalize ps[k].2.1 = cn at *
          generalize ps[k].2.2 = tx at *
          have HST := Kp.mk (show LAct (fun j => (j < w.heap.size ∨ j = w2.heap.size) ∨ j = wr.heap.size) b qb qg w2.heap.size wr.heap.size most x x #[.int .i64 op, .int .i64 cn, .string tx] 41 wr (wr.alloc (.cells #[.int .i64 op, .int .i64 cn, .string tx] 41)) from
            ⟨(HI.out.k.add wr.heap.size (Nat.le_refl _)).below ((Below.refl _ _).alloc (Nat.le_refl _) _), HI.out.r.kept (Below.heap_alloc _ _ _ hcl), heap_alloc_new wr _, ⟨rfl, rfl, rfl, by simp, fun j hj _ => Below.heap_alloc wr _ j hj⟩, .inl (.inr rfl), .inr rfl, by omega⟩)
          go_wp2_with fail
          refine wp_region_any (by kernel_rfl) ?_
          change wpAny _ _ _ _ _ _ _ (World.drew _)
          refine wpAny_take (i := 0) (v := .pointer (some ⟨b, 0, none⟩)) rfl (by kernel_rfl) (by kernel_rfl) (by kernel_rfl) (fun _ _ _ h => h) (Or.inl ⟨by rfl, ?_⟩) ?_
          · intro w
            go_simp
          refine wpAny_ready (rs := [1]) (by kernel_rfl) (by simp) ?_
          refine AllReady.cons rfl (fun K hK => ?_) AllReady.nil
          go_simp
          refine hK _ _ ?_
          clear hK K
          refine wpAny_ready (rs := [2]) (by kernel_rfl) (by simp) ?_
          refine AllReady.cons rfl (fun K hK => ?_) AllReady.nil
          go_simp
          refine (act38_any (fun j => (j < w.heap.size ∨ j = w2.heap.size) ∨ j = wr.heap.size) b qb qg w2.heap.size most x op cn tx _ HST.out.drew.k HST.out.drew.r (.inl (.inr rfl)) (by intro j hj; simp; omega) (by omega) (by omega) (by omega)).mono ?_
          rintro e w3 ⟨rfl, hto⟩
          refine hK _ _ ?_
          clear hK K
          have hx2 := x.act_O most op cn tx
          generalize x.act most op cn tx = x2 at *
          have hbe : Below w.heap.size w ((wr.alloc (.cells #[.int .i64 op, .int .i64 cn, .string tx] 41)).drew) := HI.out.bel.trans ((((Below.refl _ _).alloc (Nat.le_refl _) _).trans ((gdrewN _ 1).mono (by simp))).mono hsz)
          have hin := show LInv b qb qg w2.heap.size most x2 w w3 from ⟨hto.1.mono fun k hk => .inl hk, hto.2.1, hbe.trans (hto.2.2.below hbe.size (fun k hk => ⟨.inl (.inl hk), by have := HI.out.wc; omega⟩)), HI.out.wc⟩
          obtain ⟨S2, O2, g0, g1⟩ := x2
          have p0 := fun p : InS (LInv b qb qg w2.heap.size most ⟨S2, O2, g0, g1⟩ w) => blk_cell (i := 0) p.ok.r.blk rfl
          have p1 := fun p : InS (LInv b qb qg w2.heap.size most ⟨S2, O2, g0, g1⟩ w) => blk_cell (i := 1) p.ok.r.blk rfl
          have p3 := fun p : InS (LInv b qb qg w2.heap.size most ⟨S2, O2, g0, g1⟩ w) => blk_cell (i := 3) p.ok.r.blk rfl
          have p4 := fun p : InS (LInv b qb qg w2.heap.size most ⟨S2, O2, g0, g1⟩ w) => blk_cell (i := 4) p.ok.r.blk rfl
          have HIN := Kp.mk hin
          haveI hne : Nonempty (InS (LInv b qb qg w2.heap.size most ⟨S2, O2, g0, g1⟩ w)) := ⟨⟨_, hin⟩⟩
          have hos := oB_size O2
          clear hin hto hbe
          have HSB := empty_or S2
          have oe : (oB []).toList.isEmpty = true := by unfold oB; rw [ba_mk_emp]; rfl
          have HOB := empty_or O2
          have HX2 := Kp.mk hx2
          clear hx2
          cases g0 <;> cases g1
          case' true.false | true.true => rcases HSB with rfl | ⟨s1, s2, s3⟩
          case' false.true | true.true.inl | true.true.inr => rcases HOB with rfl | ⟨o1, o2, o3⟩
          all_goals
            refine any_in _ 3 (by kernel_rfl) rfl (by kernel_rfl) (by kernel_rfl) HIN.out ?_
            simp only [List.drop_succ_cons, List.drop_zero]
            repeat (go_big_quiet_step ((first
            | (go_at_call 20; exact call_in fun w h => (lk_left _ _ _ _ _ _ _ _ _ _ h.k).mono fun _ _ h2 => ⟨h2.1, h.below h2.2⟩)
            | (go_at_call 21; exact call_in fun w h => (lk_dry _ _ _ _ _ _ _ _ _ _ h.k).mono fun _ _ h2 => ⟨h2.1, h2.2 ▸ h⟩)
            | (go_at_call 22; exact call_in fun w h => (lk_waits _ _ _ _ _ _ _ _ _ _ h.k).mono fun _ _ h2 => ⟨h2.1, h2.2 ▸ h⟩)
            | (go_at_call 23; exact call_in fun w h => (lk_free _ _ _ _ _ _ _ _ _ _ h.k).mono fun _ _ h2 => ⟨h2.1, by obtain ⟨n, rfl⟩ := h2.2; exact h.below (gdrewN _ n)⟩)
            | (go_at_call 24; exact call_in fun w h => (lk_over _ _ _ _ _ _ _ _ _ _ h.k).mono fun _ _ h2 => ⟨h2.1, h2.2 ▸ h⟩)
            | (go_at_call 25; exact call_in fun w h => (lk_live _ _ _ _ _ _ _ _ _ _ h.k).mono fun _ _ h2 => ⟨h2.1, h2.2 ▸ h⟩))))
            refine wpQuiet_nil ?_
            intro _ hw'
            obtain ⟨wq, rfl⟩ := hw'
            have HXX := HX2.out
            go_wp2_with fail
            go_roundw
            case rel => exact ⟨k + 1, _, by omega, by go_num, by (simp at HXX ⊢ <;> omega), wq.ok⟩
            case measure => simp [intOf]; omega
        · go_wp2_with fail
          refine (lives38_any _).mono ?_
          rintro e w4 ⟨rfl, hb4⟩
          go_wp2_with fail
          go_ret
          exact ⟨rfl, HI.out.bel.trans (hb4.mono hsz)⟩
  · go_enter Try.func4, Try.ntmps4
    have HIN := Kp.mk hin
    clear hin
    by_cases h1 : m < 0
    · have t1 : decide (m < 0) = true := decide_eq_true h1
      have t3 : decide ((0 : Int) ≤ m) = false := decide_eq_false (by omega)
      go_wp2_with fail
      refine (lk_new_no m _ (by omega)).mono ?_
      rintro e w2 ⟨rfl, rfl⟩
      go_wp2_with fail
      refine (lives38_any _).mono ?_
      rintro e w4 ⟨rfl, hb4⟩
      go_wp2_with fail
      go_ret
      exact ⟨rfl, hb4⟩
    · have h2 : 2000 < m := by have := HIN.out; omega
      have t1 : decide (m < 0) = false := decide_eq_false h1
      have t2 : decide ((2000 : Int) < m) = true := decide_eq_true h2
      have t3 : decide ((0 : Int) ≤ m) = true := decide_eq_true (by omega)
      by_cases h3 : m ≤ 65536
      · have t4 : decide (m ≤ 65536) = true := decide_eq_true h3
        go_wp2_with fail
        refine (lives38_any _).mono ?_
        rintro e w4 ⟨rfl, hb4⟩
        go_wp2_with fail
        go_ret
        exact ⟨rfl, hb4⟩
      · have t4 : decide (m ≤ 65536) = false := decide_eq_false h3
        go_wp2_with fail
        refine (lk_new_no m _ (by omega)).mono ?_
        rintro e w2 ⟨rfl, rfl⟩
        go_wp2_with fail
        refine (lives38_any _).mono ?_
        rintro e w4 ⟨rfl, hb4⟩
        go_wp2_with fail
        go_ret
        exact ⟨rfl, hb4⟩
end Go.Proofs.Ytlgeebclphcnjaa
