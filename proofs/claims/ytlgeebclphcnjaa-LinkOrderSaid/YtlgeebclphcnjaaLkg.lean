/- A link: the law LinkOrder (layer 38). -/
import Derived.Test.YtlgeebclphcnjaaLke
import Derived.Deep.CutBlock
namespace Go.Proofs.Ytlgeebclphcnjaa
open Go.RowKit
set_option linter.unusedVariables false
set_option linter.unusedSimpArgs false

theorem suffix_extr {G s : ByteArray} {pre : List UInt8} {d : Nat} (h : G.data.toList = pre ++ s.data.toList) (hd : d = pre.length) : G.extract d G.size = s := by
  refine ba_ext2 ?_
  rw [Lib.extract_data, List.take_of_length_le (by rw [ba_size'] ; simp), h, hd]
  simp
theorem oB_of (s : ByteArray) : oB s.data.toList = s := ba_ext2 (by rw [oB_list])
/-- What holds at each round's head: written, taken, given, what is left, what waits. -/
structure OInv (b qb qg M kk : Nat) (P T G : ByteArray) (S O pre : List UInt8) (w wr : World) : Prop where
  k : LK (fun k => k < w.heap.size) b qb qg M S O false false wr
  bel : Below w.heap.size w wr
  pto : P.data.toList = T.data.toList ++ O
  gs : G.data.toList = pre ++ S
  pz : P.size ≤ 300 * kk
  gz : G.size ≤ 300 * kk
def OInvE (b qb qg M k : Nat) (p t g : Value) (w wr : World) : Prop := ∃ P T G S O pre, p = .string P ∧ t = .string T ∧ g = .string G ∧ OInv b qb qg M k P T G S O pre w wr
/-- In a round: the box beside. -/
structure OBox (b qb qg M bx : Nat) (S O : List UInt8) (op n : Int) (tx : ByteArray) (w w' : World) : Prop where
  k : LK (fun k => k < w.heap.size ∨ k = bx) b qb qg M S O false false w'
  bel : Below w.heap.size w w'
  box : w'.heap[bx]? = some (.cells #[.int .i64 op, .int .i64 n, .string tx] 41 (0, 0))
theorem OBox.on {b qb qg M bx : Nat} {S O S2 O2 : List UInt8} {op n : Int} {tx : ByteArray} {w w' w2 : World} (h : OBox b qb qg M bx S O op n tx w w') (hk : LK (fun k => k < w.heap.size ∨ k = bx) b qb qg M S2 O2 false false w2) (hK : Kpt (fun k => k < w.heap.size ∨ k = bx) w' w2) : OBox b qb qg M bx S2 O2 op n tx w w2 :=
  ⟨hk, h.bel.trans (hK.below h.bel.size (fun k hk => .inl hk)), (hK.block bx (blk_lt h.box) (.inr rfl)).trans h.box⟩
theorem OBox.below {b qb qg M bx : Nat} {S O : List UInt8} {op n : Int} {tx : ByteArray} {w w' w2 : World} (h : OBox b qb qg M bx S O op n tx w w') (hb : Below w'.heap.size w' w2) : OBox b qb qg M bx S O op n tx w w2 := h.on (h.k.below hb) (Kpt.of hb)
set_option maxRecDepth 100000 in
set_option maxHeartbeats 30000000 in
theorem lorder_walk (m : Int) (v : Value) (ps : List QA) (w : World) (hv : RdL qactC 3 w v ps) (hz : ∀ p ∈ ps, (Lit.int .i64 p.1).wf = true ∧ (Lit.int .i64 p.2.1).wf = true ∧ p.2.2.size ≤ maxLen) :
    Calls Try.prog 5 #[.int .i64 m, v] w fun e w' => e = .returned (.bool true) ∧ Below w.heap.size w w' := by
  have HV := Kp.mk hv
  have HZ := Kp.mk hz
  obtain ⟨a, cap, rfl, hc1, hc2, -⟩ := hv
  clear hz hc2
  go_enter Try.func5, Try.ntmps5
  go_wp2_with fail
  have HPN := Kp.mk (show ∀ wx : World, Below (w.heap.size + 2) ((w.alloc (.cells #[.pointer none, .slice none 0 0, .bool false, .bool false] 51)).alloc (.cells #[.pointer none, .pointer (some ⟨w.heap.size, 0, none⟩)] 36)) wx → LkNo (.pointer (some ⟨w.heap.size, 0, none⟩)) wx from fun wx h => .inr ⟨w.heap.size, rfl, (h.block _ (by omega)).trans (blk_alloc (heap_alloc_new w _))⟩)
  have HCN := Kp.mk (show ∀ wx : World, Below (w.heap.size + 2) ((w.alloc (.cells #[.pointer none, .slice none 0 0, .bool false, .bool false] 51)).alloc (.cells #[.pointer none, .pointer (some ⟨w.heap.size, 0, none⟩)] 36)) wx → wx.cell? ⟨w.heap.size + 1, 0, none⟩ = some (.pointer none) ∧ wx.cell? ⟨w.heap.size + 1, 1, none⟩ = some (.pointer (some ⟨w.heap.size, 0, none⟩)) from fun wx h => by
    have h9 := (h.block (w.heap.size + 1) (by omega)).trans (show ((w.alloc (.cells #[.pointer none, .slice none 0 0, .bool false, .bool false] 51)).alloc (.cells #[.pointer none, .pointer (some ⟨w.heap.size, 0, none⟩)] 36)).heap[w.heap.size + 1]? = some (.cells #[.pointer none, .pointer (some ⟨w.heap.size, 0, none⟩)] 36 (0, 0)) from by
      have := heap_alloc_new (w.alloc (.cells #[.pointer none, .slice none 0 0, .bool false, .bool false] 51)) (.cells #[.pointer none, .pointer (some ⟨w.heap.size, 0, none⟩)] 36)
      simpa using this)
    exact ⟨blk_cell h9 rfl, blk_cell h9 rfl⟩)
  have HBW := Kp.mk (show ∀ wx : World, Below (w.heap.size + 2) ((w.alloc (.cells #[.pointer none, .slice none 0 0, .bool false, .bool false] 51)).alloc (.cells #[.pointer none, .pointer (some ⟨w.heap.size, 0, none⟩)] 36)) wx → Below w.heap.size w wx from fun wx h => (((Below.refl _ _).alloc (Nat.le_refl _) _).alloc (by simp) _).trans (h.mono (by omega)))
  go_loopw [7, 22] (fun _ i wr => ∃ k : Nat, k ≤ 2 ∧ i = .int .i64 k ∧ Below (w.heap.size + 2) ((w.alloc (.cells #[.pointer none, .slice none 0 0, .bool false, .bool false] 51)).alloc (.cells #[.pointer none, .pointer (some ⟨w.heap.size, 0, none⟩)] 36)) wr) (fun _ i _ => 2 - (intOf i).toNat)
  case atStart => exact ⟨0, by omega, rfl, Below.refl _ _⟩
  case round =>
    obtain ⟨k, hk, rfl, hb⟩ := hrel
    have HB := Kp.mk hb
    have ee := ee_emp
    obtain ⟨cn0, cn1⟩ := HCN.out _ hb
    clear hb
    by_cases hlt : k < 2
    · have hk01 : k = 0 ∨ k = 1 := by omega
      obtain ⟨p, hcp, hnp⟩ : ∃ p, wr.cell? ⟨w.heap.size + 1, k, none⟩ = some p ∧ LkNo p wr := by
        rcases hk01 with rfl | rfl
        · exact ⟨_, cn0, .inl rfl⟩
        · exact ⟨_, cn1, HPN.out _ HB.out⟩
      have HN := Kp.mk hnp
      have q1 : (k : Int) < 2 := by omega
      clear hnp cn0 cn1 hk01
      go_wp2_with fail
      refine (no_end p _ HN.out).mono ?_
      rintro e w1 ⟨rfl, rfl⟩
      go_wp2_with fail
      refine (no_use p _ HN.out).mono ?_
      rintro e w1 ⟨rfl, rfl⟩
      go_wp2_with fail
      refine (no_write p _ HN.out).mono ?_
      rintro e w1 ⟨rfl, rfl⟩
      go_wp2_with fail
      refine (no_shut p _ HN.out).mono ?_
      rintro e w1 ⟨rfl, rfl⟩
      go_wp2_with fail
      refine (no_give p _ HN.out).mono ?_
      rintro e w1 ⟨rfl, rfl⟩
      go_wp2_with fail
      refine (no_waits p _ HN.out).mono ?_
      rintro e w1 ⟨rfl, rfl⟩
      go_wp2_with fail
      refine (no_left p _ HN.out).mono ?_
      rintro e w1 ⟨rfl, rfl⟩
      go_wp2_with fail
      refine (no_take p _ HN.out).mono ?_
      rintro e w1 ⟨rfl, rfl⟩
      go_wp2_with fail
      refine (no_dry p _ HN.out).mono ?_
      rintro e w1 ⟨rfl, rfl⟩
      go_wp2_with fail
      refine (no_free p _ HN.out).mono ?_
      rintro e w1 ⟨rfl, n1, rfl⟩
      have HN1 := Kp.mk (HN.out.below (gdrewN _ n1))
      go_wp2_with fail
      refine (no_over p _ HN1.out).mono ?_
      rintro e w1 ⟨rfl, rfl⟩
      go_wp2_with fail
      refine (no_live p _ HN1.out).mono ?_
      rintro e w1 ⟨rfl, rfl⟩
      go_wp2_with fail
      go_roundw
      case rel => exact ⟨k + 1, by omega, by go_num, HB.out.trans ((gdrewN _ n1).mono (by have := HB.out.size; simp at this; omega))⟩
      case measure => simp [intOf]; omega
    · obtain rfl : k = 2 := by omega
      have HW := Kp.mk (HBW.out _ HB.out)
      clear HBW HCN HPN HB cn0 cn1
      by_cases hin : 0 ≤ m ∧ m ≤ 2000
      · obtain ⟨most, rfl⟩ := Int.eq_ofNat_of_zero_le hin.1
        have hm : most ≤ 2000 := by omega
        have hn1 : decide ((most : Int) < 0) = false := by simp
        have hn2 : decide ((2000 : Int) < (most : Int)) = false := by simp; omega
        clear hin
        go_wp2_with fail
        refine (few38_any _ ps _ (HV.out.below HW.out) (fun p hp => (HZ.out p hp).2.2)).mono ?_
        rintro e w1 ⟨ok, rfl, hb1, hok⟩
        have HB1 := Kp.mk (HW.out.trans (hb1.mono HW.out.size))
        have HOK := Kp.mk hok
        clear hb1 hok
        cases ok
        · go_wp2_with fail
          refine (lives38_any _).mono ?_
          rintro e w2 ⟨rfl, hb2⟩
          go_wp2_with fail
          go_ret
          exact ⟨rfl, HB1.out.trans (hb2.mono HB1.out.size)⟩
        · have hpl := (HOK.out rfl).1
          have HPS := Kp.mk (HOK.out rfl).2
          go_wp2_with fail
          refine (lk_new most _ (by omega)).mono ?_
          rintro e w2 ⟨b, qb, qg, rfl, hq2, hb2⟩
          have HI := Kp.mk (show OInvE b qb qg most 0 (.string ⟨#[]⟩) (.string ⟨#[]⟩) (.string ⟨#[]⟩) w w2 from
            ⟨⟨#[]⟩, ⟨#[]⟩, ⟨#[]⟩, [], [], [], rfl, rfl, rfl, hq2.mono fun k hk => Nat.lt_of_lt_of_le hk HB1.out.size, HB1.out.trans (hb2.mono HB1.out.size), rfl, rfl, by decide, by decide⟩)
          clear hb2 hq2
          go_wp2_with fail
          go_loopw [9, 10, 11, 83] (fun pv tv gv i wr => ∃ k : Nat, k ≤ ps.length ∧ i = .int .i64 k ∧ OInvE b qb qg most k pv tv gv w wr) (fun _ _ _ i _ => ps.length - (intOf i).toNat)
          case atStart => exact ⟨0, by omega, rfl, HI.out⟩
          case round =>
            obtain ⟨k, hk, rfl, P, T, G, S, O, pre, rfl, rfl, rfl, hinv⟩ := hrel
            have HI := Kp.mk hinv
            have hsz := hinv.bel.size
            have hpz := hinv.pz
            have hgz := hinv.gz
            have hsm := hinv.k.le
            have htp : T.size + O.length = P.size := by have := congrArg List.length hinv.pto; rw [List.length_append, ← ba_size', ← ba_size'] at this; omega
            have hgp : pre.length + S.length = G.size := by have := congrArg List.length hinv.gs; rw [List.length_append, ← ba_size'] at this; omega
            clear hinv
            by_cases hlt : k < ps.length
            · obtain ⟨g, o, rfl, hgl, d0⟩ := qact_cells (HV.out.below HI.out.bel) (by omega)
              obtain ⟨c1, c2, c3⟩ := d0 k hlt
              have m1 := HPS.out ps[k] (List.getElem_mem hlt)
              have q0 : (0 : Int) ≤ (k : Int) := by omega
              have q1 : (k : Int) < (ps.length : Int) := by omega
              clear d0
              generalize ps[k].1 = op at *
              generalize ps[k].2.1 = cn at *
              generalize ps[k].2.2 = tx at *
              have HX := Kp.mk (show OBox b qb qg most wr.heap.size S O op cn tx w (wr.alloc (.cells #[.int .i64 op, .int .i64 cn, .string tx] 41)) from
                ⟨(HI.out.k.add wr.heap.size (Nat.le_refl _)).below ((Below.refl _ _).alloc (Nat.le_refl _) _), HI.out.bel.alloc hsz _, heap_alloc_new wr _⟩)
              have HPT := Kp.mk HI.out.pto
              have HGS := Kp.mk HI.out.gs
              clear HI
              have hway : op = 1 ∨ op = 3 ∨ op = 4 ∨ (op ≠ 1 ∧ op ≠ 3 ∧ op ≠ 4) := by omega
              rcases hway with rfl | rfl | rfl | ⟨o1, o3, o4⟩
              · have b2 := blk_cell (i := 2) HX.out.box rfl
                have hd2 : (wr.alloc (.cells #[.int .i64 1, .int .i64 cn, .string tx] 41)).drew.cell? ⟨wr.heap.size, 2, none⟩ = some (.string tx) := b2
                have HXD := Kp.mk (HX.out.below (gdrewN _ 1))
                have hu1 : giveN false false most S tx ≤ tx.size := by unfold giveN; simp; omega
                have hu2 : S.length + giveN false false most S tx ≤ most := by unfold giveN; simp; omega
                generalize hgn : giveN false false most S tx = u at *
                have HGN := Kp.mk hgn
                have hu3 : (u : Int) ≤ (tx.size : Int) := by omega
                have hu4 : ¬ ((tx.size : Int) < (u : Int)) := by omega
                have hway0 : u = 0 ∨ (0 < u ∧ (0 : Int) < (u : Int)) := by omega
                clear hgn
                rcases hway0 with rfl | ⟨hup, hup2⟩
                · have hxe : tx.extract 0 0 = ⟨#[]⟩ := ba_ext2 (by rw [Lib.extract_data]; rfl)
                  have hge : G ++ ⟨#[]⟩ = G := ba_ext2 (by rw [cat_app]; simp)
                  go_upto_block 4 with fail
                  go_cut [9, 10, 11] (fun v9 v10 v wx => v9 = .string P ∧ v10 = .string T ∧ v = .string G ∧ OBox b qb qg most wr.heap.size (S ++ tx.data.toList.take 0) O 1 cn tx w wx)
                  case first =>
                    go_wp2_with fail
                    first
                      | go_region_with (first
                          | (go_at_call 30; refine (lk_give _ _ _ _ _ _ _ _ _ tx _ HXD.out.k (by omega)).mono ?_; rintro e wq ⟨rfl, hq, hoq⟩; rw [HGN.out] at hq ⊢; have HY := Kp.mk (HXD.out.on hq hoq); have dq := blk_cell (i := 2) HY.out.box rfl; clear hq hoq))
                      | fail
                    all_goals
                      go_wp2_with fail
                      go_meet
                      exact ⟨rfl, rfl, rfl, HY.out⟩
                  case rest =>
                    obtain ⟨rfl, rfl, rfl, hbx⟩ := hcut
                    have HY := Kp.mk hbx
                    clear hbx
                    have HLE := HY.out.k.le
                    have HPT2 := Kp.mk (show (P).data.toList = (T).data.toList ++ (O) by exact HPT.out)
                    have HGS2 := Kp.mk (show (G).data.toList = (pre) ++ (S ++ tx.data.toList.take 0) by rw [HGS.out, List.take_zero, List.append_nil])
                    have HPZ := Kp.mk (show (P).size ≤ 300 * (k + 1) by omega)
                    have HGZ := Kp.mk (show (G).size ≤ 300 * (k + 1) by omega)
                    generalize hP2 : P = P2 at *
                    generalize hT2 : T = T2 at *
                    generalize hG2 : G = G2 at *
                    generalize hS2 : S ++ tx.data.toList.take 0 = S2 at *
                    generalize hO2 : O = O2 at *
                    generalize hp2 : pre = pre2 at *
                    have hp3 := HPZ.out
                    have hg3 := HGZ.out
                    have hgl2 : pre2.length + S2.length = G2.size := by have := congrArg List.length HGS2.out; rw [List.length_append, ← ba_size'] at this; omega
                    clear hP2 hT2 hG2 hS2 hO2 hp2
                    go_wp2_with fail
                    refine (lk_left _ _ _ _ _ _ _ _ _ _ HY.out.k).mono ?_
                    rintro e w9 ⟨rfl, hb9⟩
                    have HZ9 := Kp.mk (HY.out.below hb9)
                    have hs9 := oB_size S2
                    have he9 : G2.extract (G2.size - (oB S2).size) G2.size = oB S2 := suffix_extr (pre := pre2) (by rw [HGS2.out, oB_list]) (by omega)
                    have hl9 : (oB S2).size ≤ G2.size := by omega
                    have hm9 : (oB S2).size ≤ most := by omega
                    have hd9 : (G2.size : Int) - ((oB S2).size : Int) = ((G2.size - (oB S2).size : Nat) : Int) := by omega
                    have hd8 : G2.size - (oB S2).size ≤ G2.size := by omega
                    generalize oB S2 = x at *
                    generalize G2.size - x.size = dd at *
                    clear hb9 hs9
                    have i1 : decide (G2.size < x.size) = false := decide_eq_false (by omega)
                    have i2 : decide (most < x.size) = false := decide_eq_false (by omega)
                    have i3 : decide ((most : Int) < (x.size : Int)) = false := decide_eq_false (by omega)
                    have i4 : decide ((G2.size : Int) < (x.size : Int)) = false := decide_eq_false (by omega)
                    go_wp2_with fail
                    go_roundw
                    case rel => exact ⟨k + 1, by omega, by go_num, P2, T2, G2, S2, O2, pre2, rfl, rfl, rfl, HZ9.out.k.mono (fun k hk => .inl hk), HZ9.out.bel, HPT2.out, HGS2.out, HPZ.out, HGZ.out⟩
                    case measure => simp [intOf]; omega
                · go_upto_block 4 with fail
                  go_cut [9, 10, 11] (fun v9 v10 v wx => v9 = .string P ∧ v10 = .string T ∧ v = .string (G ++ tx.extract 0 u) ∧ OBox b qb qg most wr.heap.size (S ++ tx.data.toList.take u) O 1 cn tx w wx)
                  case first =>
                    go_wp2_with fail
                    first
                      | go_region_with (first
                          | (go_at_call 30; refine (lk_give _ _ _ _ _ _ _ _ _ tx _ HXD.out.k (by omega)).mono ?_; rintro e wq ⟨rfl, hq, hoq⟩; rw [HGN.out] at hq ⊢; have HY := Kp.mk (HXD.out.on hq hoq); have dq := blk_cell (i := 2) HY.out.box rfl; clear hq hoq))
                      | fail
                    all_goals
                      go_wp2_with fail
                      go_meet
                      exact ⟨rfl, rfl, rfl, HY.out⟩
                  case rest =>
                    obtain ⟨rfl, rfl, rfl, hbx⟩ := hcut
                    have HY := Kp.mk hbx
                    clear hbx
                    have HLE := HY.out.k.le
                    have HPT2 := Kp.mk (show (P).data.toList = (T).data.toList ++ (O) by exact HPT.out)
                    have HGS2 := Kp.mk (show (G ++ tx.extract 0 u).data.toList = (pre) ++ (S ++ tx.data.toList.take u) by rw [cat_app, HGS.out, Lib.extract_data, List.drop_zero, Nat.sub_zero, List.append_assoc])
                    have HPZ := Kp.mk (show (P).size ≤ 300 * (k + 1) by omega)
                    have HGZ := Kp.mk (show (G ++ tx.extract 0 u).size ≤ 300 * (k + 1) by rw [ba_size', cat_app, List.length_append, Lib.extract_data, ← ba_size']; simp; omega)
                    generalize hP2 : P = P2 at *
                    generalize hT2 : T = T2 at *
                    generalize hG2 : G ++ tx.extract 0 u = G2 at *
                    generalize hS2 : S ++ tx.data.toList.take u = S2 at *
                    generalize hO2 : O = O2 at *
                    generalize hp2 : pre = pre2 at *
                    have hp3 := HPZ.out
                    have hg3 := HGZ.out
                    have hgl2 : pre2.length + S2.length = G2.size := by have := congrArg List.length HGS2.out; rw [List.length_append, ← ba_size'] at this; omega
                    clear hP2 hT2 hG2 hS2 hO2 hp2
                    go_wp2_with fail
                    refine (lk_left _ _ _ _ _ _ _ _ _ _ HY.out.k).mono ?_
                    rintro e w9 ⟨rfl, hb9⟩
                    have HZ9 := Kp.mk (HY.out.below hb9)
                    have hs9 := oB_size S2
                    have he9 : G2.extract (G2.size - (oB S2).size) G2.size = oB S2 := suffix_extr (pre := pre2) (by rw [HGS2.out, oB_list]) (by omega)
                    have hl9 : (oB S2).size ≤ G2.size := by omega
                    have hm9 : (oB S2).size ≤ most := by omega
                    have hd9 : (G2.size : Int) - ((oB S2).size : Int) = ((G2.size - (oB S2).size : Nat) : Int) := by omega
                    have hd8 : G2.size - (oB S2).size ≤ G2.size := by omega
                    generalize oB S2 = x at *
                    generalize G2.size - x.size = dd at *
                    clear hb9 hs9
                    have i1 : decide (G2.size < x.size) = false := decide_eq_false (by omega)
                    have i2 : decide (most < x.size) = false := decide_eq_false (by omega)
                    have i3 : decide ((most : Int) < (x.size : Int)) = false := decide_eq_false (by omega)
                    have i4 : decide ((G2.size : Int) < (x.size : Int)) = false := decide_eq_false (by omega)
                    go_wp2_with fail
                    go_roundw
                    case rel => exact ⟨k + 1, by omega, by go_num, P2, T2, G2, S2, O2, pre2, rfl, rfl, rfl, HZ9.out.k.mono (fun k hk => .inl hk), HZ9.out.bel, HPT2.out, HGS2.out, HPZ.out, HGZ.out⟩
                    case measure => simp [intOf]; omega
              · have b1 := blk_cell (i := 1) HX.out.box rfl
                go_wp2_with fail
                refine (lk_left _ _ _ _ _ _ _ _ _ _ HX.out.k).mono ?_
                rintro e w4 ⟨rfl, hb4⟩
                have HX4 := Kp.mk (HX.out.below hb4)
                have b41 := blk_cell (i := 1) HX4.out.box rfl
                have hs4 := oB_size S
                have HS4 := Kp.mk (oB_list S)
                clear hb4
                generalize oB S = x4 at *
                go_wp2_with fail
                refine (lk_use _ _ _ _ _ _ _ _ _ cn _ HX4.out.k).mono ?_
                rintro e w5 ⟨rfl, hq, hoq⟩
                have HX5 := Kp.mk (HX4.out.on hq hoq)
                clear hq hoq
                go_wp2_with fail
                refine (lk_left _ _ _ _ _ _ _ _ _ _ HX5.out.k).mono ?_
                rintro e w6 ⟨rfl, hb6⟩
                have HY := Kp.mk (HX5.out.below hb6)
                have hs6 := oB_size (S.drop cn.toNat)
                have he6 : x4.extract (x4.size - (oB (S.drop cn.toNat)).size) x4.size = oB (S.drop cn.toNat) := suffix_extr (pre := S.take cn.toNat) (by rw [HS4.out, oB_list, List.take_append_drop]) (by rw [hs6, hs4, List.length_take, List.length_drop]; omega)
                have hl6 : (oB (S.drop cn.toNat)).size ≤ x4.size := by rw [hs6, hs4, List.length_drop]; omega
                have hd6 : (x4.size : Int) - ((oB (S.drop cn.toNat)).size : Int) = ((x4.size - (oB (S.drop cn.toNat)).size : Nat) : Int) := by omega
                have hd7 : x4.size - (oB (S.drop cn.toNat)).size ≤ x4.size := by omega
                generalize oB (S.drop cn.toNat) = x6 at *
                generalize x4.size - x6.size = d6 at *
                have hx4b : x4.size ≤ 65536 := by omega
                clear hb6 hs6 hs4
                have j1 : decide (x4.size < x6.size) = false := decide_eq_false (by omega)
                have j4 : decide ((x4.size : Int) < (x6.size : Int)) = false := decide_eq_false (by omega)
                have HLE := HY.out.k.le
                have HPT2 := Kp.mk (show (P).data.toList = (T).data.toList ++ (O) by exact HPT.out)
                have HGS2 := Kp.mk (show (G).data.toList = (pre ++ S.take cn.toNat) ++ (S.drop cn.toNat) by rw [HGS.out, List.append_assoc, List.take_append_drop])
                have HPZ := Kp.mk (show (P).size ≤ 300 * (k + 1) by omega)
                have HGZ := Kp.mk (show (G).size ≤ 300 * (k + 1) by omega)
                generalize hP2 : P = P2 at *
                generalize hT2 : T = T2 at *
                generalize hG2 : G = G2 at *
                generalize hS2 : S.drop cn.toNat = S2 at *
                generalize hO2 : O = O2 at *
                generalize hp2 : pre ++ S.take cn.toNat = pre2 at *
                have hp3 := HPZ.out
                have hg3 := HGZ.out
                have hgl2 : pre2.length + S2.length = G2.size := by have := congrArg List.length HGS2.out; rw [List.length_append, ← ba_size'] at this; omega
                clear hP2 hT2 hG2 hS2 hO2 hp2
                go_wp2_with fail
                refine (lk_left _ _ _ _ _ _ _ _ _ _ HY.out.k).mono ?_
                rintro e w9 ⟨rfl, hb9⟩
                have HZ9 := Kp.mk (HY.out.below hb9)
                have hs9 := oB_size S2
                have he9 : G2.extract (G2.size - (oB S2).size) G2.size = oB S2 := suffix_extr (pre := pre2) (by rw [HGS2.out, oB_list]) (by omega)
                have hl9 : (oB S2).size ≤ G2.size := by omega
                have hm9 : (oB S2).size ≤ most := by omega
                have hd9 : (G2.size : Int) - ((oB S2).size : Int) = ((G2.size - (oB S2).size : Nat) : Int) := by omega
                have hd8 : G2.size - (oB S2).size ≤ G2.size := by omega
                generalize oB S2 = x at *
                generalize G2.size - x.size = dd at *
                clear hb9 hs9
                have i1 : decide (G2.size < x.size) = false := decide_eq_false (by omega)
                have i2 : decide (most < x.size) = false := decide_eq_false (by omega)
                have i3 : decide ((most : Int) < (x.size : Int)) = false := decide_eq_false (by omega)
                have i4 : decide ((G2.size : Int) < (x.size : Int)) = false := decide_eq_false (by omega)
                go_wp2_with fail
                go_roundw
                case rel => exact ⟨k + 1, by omega, by go_num, P2, T2, G2, S2, O2, pre2, rfl, rfl, rfl, HZ9.out.k.mono (fun k hk => .inl hk), HZ9.out.bel, HPT2.out, HGS2.out, HPZ.out, HGZ.out⟩
                case measure => simp [intOf]; omega
              · have b2 := blk_cell (i := 2) HX.out.box rfl
                go_wp2_with fail
                refine (lk_write _ _ _ _ _ _ _ _ _ tx _ HX.out.k (by omega) (by intro j hj; simp; omega)).mono ?_
                rintro e w4 ⟨rfl, hq, hoq⟩
                have HY := Kp.mk (HX.out.on (O2 := O ++ tx.data.toList) hq hoq)
                have b42 := blk_cell (i := 2) HY.out.box rfl
                clear hq hoq
                have HLE := HY.out.k.le
                have HPT2 := Kp.mk (show (P ++ tx).data.toList = (T).data.toList ++ (O ++ tx.data.toList) by rw [cat_app, HPT.out, List.append_assoc])
                have HGS2 := Kp.mk (show (G).data.toList = (pre) ++ (S) by exact HGS.out)
                have HPZ := Kp.mk (show (P ++ tx).size ≤ 300 * (k + 1) by rw [ba_size', cat_app, List.length_append, ← ba_size', ← ba_size']; omega)
                have HGZ := Kp.mk (show (G).size ≤ 300 * (k + 1) by omega)
                generalize hP2 : P ++ tx = P2 at *
                generalize hT2 : T = T2 at *
                generalize hG2 : G = G2 at *
                generalize hS2 : S = S2 at *
                generalize hO2 : O ++ tx.data.toList = O2 at *
                generalize hp2 : pre = pre2 at *
                have hp3 := HPZ.out
                have hg3 := HGZ.out
                have hgl2 : pre2.length + S2.length = G2.size := by have := congrArg List.length HGS2.out; rw [List.length_append, ← ba_size'] at this; omega
                clear hT2 hG2 hS2 hO2 hp2
                go_wp2_with fail
                refine (lk_left _ _ _ _ _ _ _ _ _ _ HY.out.k).mono ?_
                rintro e w9 ⟨rfl, hb9⟩
                have HZ9 := Kp.mk (HY.out.below hb9)
                have hs9 := oB_size S2
                have he9 : G2.extract (G2.size - (oB S2).size) G2.size = oB S2 := suffix_extr (pre := pre2) (by rw [HGS2.out, oB_list]) (by omega)
                have hl9 : (oB S2).size ≤ G2.size := by omega
                have hm9 : (oB S2).size ≤ most := by omega
                have hd9 : (G2.size : Int) - ((oB S2).size : Int) = ((G2.size - (oB S2).size : Nat) : Int) := by omega
                have hd8 : G2.size - (oB S2).size ≤ G2.size := by omega
                generalize oB S2 = x at *
                generalize G2.size - x.size = dd at *
                clear hb9 hs9
                have i1 : decide (G2.size < x.size) = false := decide_eq_false (by omega)
                have i2 : decide (most < x.size) = false := decide_eq_false (by omega)
                have i3 : decide ((most : Int) < (x.size : Int)) = false := decide_eq_false (by omega)
                have i4 : decide ((G2.size : Int) < (x.size : Int)) = false := decide_eq_false (by omega)
                go_wp2_with fail
                go_roundw
                case rel => exact ⟨k + 1, by omega, by go_num, P2, T2, G2, S2, O2, pre2, rfl, rfl, rfl, HZ9.out.k.mono (fun k hk => .inl hk), HZ9.out.bel, HPT2.out, HGS2.out, HPZ.out, HGZ.out⟩
                case measure => simp [intOf]; omega
              · have p1 : (op == 1) = false := i64nq o1
                have p3 : (op == 3) = false := i64nq o3
                have p4 : (op == 4) = false := i64nq o4
                clear o1 o3 o4
                have b1 := blk_cell (i := 1) HX.out.box rfl
                go_wp2_with fail
                refine (lk_take _ _ _ _ _ _ _ _ _ cn _ HX.out.k).mono ?_
                rintro e w4 ⟨rfl, hq, hoq⟩
                have HY := Kp.mk (HX.out.on hq hoq)
                have ht4 : (oB (O.take cn.toNat)).size ≤ O.length := by rw [oB_size, List.length_take]; omega
                have HT4 := Kp.mk (oB_list (O.take cn.toNat))
                clear hq hoq
                generalize oB (O.take cn.toNat) = x4 at *
                have HLE := HY.out.k.le
                have HPT2 := Kp.mk (show (P).data.toList = (T ++ x4).data.toList ++ (O.drop cn.toNat) by rw [cat_app, HT4.out, HPT.out, List.append_assoc, List.take_append_drop])
                have HGS2 := Kp.mk (show (G).data.toList = (pre) ++ (S) by exact HGS.out)
                have HPZ := Kp.mk (show (P).size ≤ 300 * (k + 1) by omega)
                have HGZ := Kp.mk (show (G).size ≤ 300 * (k + 1) by omega)
                generalize hP2 : P = P2 at *
                generalize hT2 : T ++ x4 = T2 at *
                generalize hG2 : G = G2 at *
                generalize hS2 : S = S2 at *
                generalize hO2 : O.drop cn.toNat = O2 at *
                generalize hp2 : pre = pre2 at *
                have hp3 := HPZ.out
                have hg3 := HGZ.out
                have hgl2 : pre2.length + S2.length = G2.size := by have := congrArg List.length HGS2.out; rw [List.length_append, ← ba_size'] at this; omega
                clear hP2 hG2 hS2 hO2 hp2
                go_wp2_with fail
                refine (lk_left _ _ _ _ _ _ _ _ _ _ HY.out.k).mono ?_
                rintro e w9 ⟨rfl, hb9⟩
                have HZ9 := Kp.mk (HY.out.below hb9)
                have hs9 := oB_size S2
                have he9 : G2.extract (G2.size - (oB S2).size) G2.size = oB S2 := suffix_extr (pre := pre2) (by rw [HGS2.out, oB_list]) (by omega)
                have hl9 : (oB S2).size ≤ G2.size := by omega
                have hm9 : (oB S2).size ≤ most := by omega
                have hd9 : (G2.size : Int) - ((oB S2).size : Int) = ((G2.size - (oB S2).size : Nat) : Int) := by omega
                have hd8 : G2.size - (oB S2).size ≤ G2.size := by omega
                generalize oB S2 = x at *
                generalize G2.size - x.size = dd at *
                clear hb9 hs9
                have i1 : decide (G2.size < x.size) = false := decide_eq_false (by omega)
                have i2 : decide (most < x.size) = false := decide_eq_false (by omega)
                have i3 : decide ((most : Int) < (x.size : Int)) = false := decide_eq_false (by omega)
                have i4 : decide ((G2.size : Int) < (x.size : Int)) = false := decide_eq_false (by omega)
                go_wp2_with fail
                go_roundw
                case rel => exact ⟨k + 1, by omega, by go_num, P2, T2, G2, S2, O2, pre2, rfl, rfl, rfl, HZ9.out.k.mono (fun k hk => .inl hk), HZ9.out.bel, HPT2.out, HGS2.out, HPZ.out, HGZ.out⟩
                case measure => simp [intOf]; omega
            · have HIE := Kp.mk HI.out.pto
              go_wp2_with fail
              refine (lk_take _ _ _ _ _ _ _ _ _ (P.size : Int) _ HI.out.k).mono ?_
              rintro e w4 ⟨rfl, hq, hoq⟩
              have hd : O.drop (P.size : Int).toNat = [] := List.drop_of_length_le (by omega)
              have ht : O.take (P.size : Int).toNat = O := List.take_of_length_le (by omega)
              rw [hd] at hq
              rw [ht]
              have HQ := Kp.mk hq
              have HB4 := Kp.mk (HI.out.bel.trans (hoq.below hsz (fun k hk => hk)))
              have hfin : T ++ oB O = P := ba_ext2 (by rw [cat_app, oB_list, HIE.out])
              have hzo := oB_size O
              clear hq hoq hd ht
              generalize oB O = z at *
              go_wp2_with fail
              refine (lk_waits _ _ _ _ _ _ _ _ _ _ HQ.out).mono ?_
              rintro e w5 ⟨rfl, rfl⟩
              go_wp2_with fail
              refine (lives38_any _).mono ?_
              rintro e w6 ⟨rfl, hb6⟩
              go_wp2_with fail
              go_ret
              exact ⟨rfl, HB4.out.trans (hb6.mono HB4.out.size)⟩
      · have hd : (m < 0 ∧ decide (m < 0) = true ∧ decide (2000 < m) = false) ∨ (¬ m < 0 ∧ decide (m < 0) = false ∧ decide (2000 < m) = true) := by
          by_cases h : m < 0
          · exact .inl ⟨h, by simpa using h, by simp; omega⟩
          · exact .inr ⟨h, by simpa using h, by simp; omega⟩
        clear hin
        rcases hd with ⟨h, h1, h2⟩ | ⟨h, h1, h2⟩
        all_goals
          go_wp2_with fail
          refine (lives38_any _).mono ?_
          rintro e w2 ⟨rfl, hb2⟩
          go_wp2_with fail
          go_ret
          exact ⟨rfl, HW.out.trans (hb2.mono HW.out.size)⟩
theorem lorder_arg (v0 v1 : Value) (w : World) (h0 : Arg Try.prog w 3 v0) (h1 : Arg Try.prog w 34 v1) :
    Calls Try.prog 5 #[v0, v1] w fun e w' => e = .returned (.bool true) ∧ Below w.heap.size w w' := by
  obtain ⟨m, rfl, hm⟩ := h0.int Try.underlying3
  obtain ⟨ps, hv, hz⟩ := lacts_arg v1 w h1
  exact lorder_walk m v1 ps w hv hz
end Go.Proofs.Ytlgeebclphcnjaa
