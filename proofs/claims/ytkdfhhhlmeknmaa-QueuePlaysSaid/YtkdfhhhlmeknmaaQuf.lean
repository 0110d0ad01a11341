/- Octets that wait: the law QueueOrder (layer 3). -/
import Derived.Test.YtkdfhhhlmeknmaaQue
import Derived.Deep.DeepCutAuto
namespace Go.Proofs.Ytkdfhhhlmeknmaa
open Go.RowKit
set_option linter.unusedVariables false
set_option linter.unusedSimpArgs false

/-- A call: what it does, how many, which text. -/
abbrev QA := Int × Int × ByteArray
def qactC (p : QA) : List Value := [.int .i64 p.1, .int .i64 p.2.1, .string p.2.2]
theorem qact_cells {w : World} {a : Option Addr} {c n : Nat} {l : List QA} (h : RdL qactC 3 w (.slice a n c) l) (h0 : 0 < l.length) : ∃ b o, a = some ⟨b, o, none⟩ ∧ b < w.heap.size ∧ ∀ (j : Nat) (h : j < l.length), w.cell? ⟨b, o + j * 3, none⟩ = some (.int .i64 l[j].1) ∧ w.cell? ⟨b, o + j * 3 + 1, none⟩ = some (.int .i64 l[j].2.1) ∧ w.cell? ⟨b, o + j * 3 + 2, none⟩ = some (.string l[j].2.2) := by
  obtain ⟨a', c', h1, h2, h3, h4⟩ := h
  cases h1
  obtain ⟨b, o, g1, g2, g3⟩ := h4 h0
  exact ⟨b, o, g1, g2, fun j hj => ⟨by have := g3 j hj 0 (by omega); simpa [qactC] using this, by have := g3 j hj 1 (by omega); simpa [qactC] using this, by have := g3 j hj 2 (by omega); simpa [qactC] using this⟩⟩
def QFew (ps : List QA) (w : World) (e : Ending) (w' : World) : Prop := ∃ ok : Bool, e = .returned (.bool ok) ∧ Below w.heap.size w w' ∧ (ok = true → ps.length ≤ 60 ∧ ∀ p ∈ ps, p.2.2.size ≤ 300)
set_option maxRecDepth 100000 in
set_option maxHeartbeats 1000000 in
theorem few3_any (v : Value) (ps : List QA) (w : World) (hv : RdL qactC 3 w v ps) (hz : ∀ p ∈ ps, p.2.2.size ≤ maxLen) :
    Calls Try.prog 26 #[v] w (QFew ps w) := by
  have HV := Kp.mk hv
  have HZ := Kp.mk hz
  obtain ⟨a, cap, rfl, hc1, hc2, -⟩ := hv
  have hll : ps.length ≤ 9223372036854775807 := by unfold maxLen at hc2; omega
  clear hz hc2
  by_cases h20 : 60 < ps.length
  · go_enter Try.func26, Try.ntmps26
    go_wp2_with fail
    go_ret
    exact ⟨false, rfl, Below.refl _ _, fun h => by cases h⟩
  · go_enter Try.func26, Try.ntmps26
    go_wp2_with fail
    go_loopw [10] (fun i wr => ∃ k : Nat, k ≤ ps.length ∧ i = .int .i64 k ∧ Below w.heap.size w wr ∧ ∀ (j : Nat) (h : j < ps.length), j < k → ps[j].2.2.size ≤ 300) (fun i _ => ps.length - (intOf i).toNat)
    case atStart => exact ⟨0, by omega, rfl, Below.refl _ _, fun j _ h => by omega⟩
    case round =>
      obtain ⟨k, hk, rfl, hb, hf⟩ := hrel
      have HB := Kp.mk hb
      have HF := Kp.mk hf
      have hsz := hb.size
      clear hb hf
      by_cases hlt : k < ps.length
      · obtain ⟨g, o, rfl, hgl, d0⟩ := qact_cells (HV.out.below HB.out) (by omega)
        obtain ⟨c1, c2, c3⟩ := d0 k hlt
        have m1 := HZ.out ps[k] (List.getElem_mem hlt)
        unfold maxLen at m1
        have q0 : (0 : Int) ≤ (k : Int) := by omega
        have q1 : (k : Int) < (ps.length : Int) := by omega
        clear d0
        by_cases h1 : 300 < ps[k].2.2.size
        · go_wp2_with fail
          go_ret
          exact ⟨false, rfl, by first | exact (HB.out.alloc hsz _) | exact (HB.out.alloc hsz _).setCell (by simp; omega) _, fun h => by cases h⟩
        · go_wp2_with fail
          go_roundw
          case rel => exact ⟨k + 1, by omega, by go_num, by first | exact (HB.out.alloc hsz _) | exact (HB.out.alloc hsz _).setCell (by simp; omega) _, fun j hj hjk => by
            by_cases hjj : j < k
            · exact HF.out j hj hjj
            · obtain rfl : j = k := by omega
              omega⟩
          case measure => simp [intOf]; omega
      · go_wp2_with fail
        go_ret
        refine ⟨true, rfl, HB.out, fun _ => ⟨by omega, fun p hp => ?_⟩⟩
        obtain ⟨j, hj, rfl⟩ := List.getElem_of_mem hp
        exact HF.out j hj (by omega)
def QMid (w : World) (B most lim : Nat) (pv tv : Value) (wx : World) : Prop := ∃ (P T : ByteArray) (S : List UInt8), pv = .string P ∧ tv = .string T ∧ P.data.toList = T.data.toList ++ S ∧ P.size ≤ lim ∧ QS (B + 1) B most S wx ∧ Below w.heap.size w wx
theorem ee_emp : ((⟨#[]⟩ : ByteArray) ++ ⟨#[]⟩) = ⟨#[]⟩ := by rfl
set_option maxRecDepth 100000 in
set_option maxHeartbeats 4000000 in
theorem qorder_walk (m : Int) (v : Value) (ps : List QA) (w : World) (hv : RdL qactC 3 w v ps) (hz : ∀ p ∈ ps, (Lit.int .i64 p.1).wf = true ∧ (Lit.int .i64 p.2.1).wf = true ∧ p.2.2.size ≤ maxLen) :
    Calls Try.prog 7 #[.int .i64 m, v] w fun e w' => e = .returned (.bool true) ∧ Below w.heap.size w w' := by
  have HV := Kp.mk hv
  have HZ := Kp.mk hz
  obtain ⟨a, cap, rfl, hc1, hc2, -⟩ := hv
  have PL := Kp.mk (PlainAt.new w)
  have HBP := Kp.mk (show Below w.heap.size w (w.alloc (.cells #[.slice none 0 0, .int .i64 0, .int .i64 0] 55)) from (Below.refl _ _).alloc (Nat.le_refl _) _)
  clear hz hc2
  have ee := ee_emp
  go_enter Try.func7, Try.ntmps7
  go_wp2_with fail
  refine (pn_put _).mono ?_
  rintro e w1 ⟨rfl, rfl⟩
  go_wp2_with fail
  refine (pl_put _ _ PL.out).mono ?_
  rintro e w1 ⟨rfl, rfl⟩
  go_wp2_with fail
  refine (qlen_none _).mono ?_
  rintro e w1 ⟨rfl, rfl⟩
  go_wp2_with fail
  refine (pl_len _ _ PL.out).mono ?_
  rintro e w1 ⟨rfl, rfl⟩
  go_wp2_with fail
  refine (qroom_none _).mono ?_
  rintro e w1 ⟨rfl, rfl⟩
  go_wp2_with fail
  refine (pl_room _ _ PL.out).mono ?_
  rintro e w1 ⟨rfl, rfl⟩
  go_wp2_with fail
  refine (qmost_none _).mono ?_
  rintro e w1 ⟨rfl, rfl⟩
  go_wp2_with fail
  refine (pl_most _ _ PL.out).mono ?_
  rintro e w1 ⟨rfl, rfl⟩
  go_wp2_with fail
  refine (qtake_none _ _).mono ?_
  rintro e w1 ⟨rfl, rfl⟩
  go_wp2_with fail
  refine (pl_take _ _ PL.out).mono ?_
  rintro e w1 ⟨rfl, rfl⟩
  go_wp2_with fail
  refine (qpeek_none _ _).mono ?_
  rintro e w1 ⟨rfl, rfl⟩
  go_wp2_with fail
  refine (pl_peek _ _ PL.out).mono ?_
  rintro e w1 ⟨rfl, rfl⟩
  by_cases hin : 0 ≤ m ∧ m ≤ 2000
  · obtain ⟨most, rfl⟩ := Int.eq_ofNat_of_zero_le hin.1
    have hm : most ≤ 2000 := by omega
    have hn1 : decide ((most : Int) < 0) = false := by simp
    have hn2 : decide ((2000 : Int) < (most : Int)) = false := by simp; omega
    clear hin
    go_wp2_with fail
    refine (few3_any _ ps _ (HV.out.below HBP.out) (fun p hp => (HZ.out p hp).2.2)).mono ?_
    rintro e w1 ⟨ok, rfl, hb1, hok⟩
    have HB1 := Kp.mk (HBP.out.trans (hb1.mono HBP.out.size))
    have HOK := Kp.mk hok
    clear hb1 hok
    cases ok
    · go_wp2_with fail
      refine (lives3_any _).mono ?_
      rintro e w2 ⟨rfl, hb2⟩
      go_wp2_with fail
      go_ret
      exact ⟨rfl, HB1.out.trans (hb2.mono HB1.out.size)⟩
    · have hpl := (HOK.out rfl).1
      have HPS := Kp.mk (HOK.out rfl).2
      go_wp2_with fail
      refine (q_new most _ (by omega)).mono ?_
      rintro e w2 ⟨rfl, hq2, hb2⟩
      have HB2 := Kp.mk (HB1.out.trans (hb2.mono HB1.out.size))
      have hs2 : w1.heap.size ≤ w2.heap.size := hb2.size
      have HQ2 := Kp.mk hq2
      have hbw : w.heap.size ≤ w1.heap.size := HB1.out.size
      clear hb2 hq2
      generalize w1.heap.size = B at *
      go_wp2_with fail
      go_loopw [8, 9, 72] (fun pv tv i wr => ∃ (k : Nat) (P T : ByteArray) (S : List UInt8), k ≤ ps.length ∧ i = .int .i64 k ∧ pv = .string P ∧ tv = .string T ∧ P.data.toList = T.data.toList ++ S ∧ P.size ≤ 300 * k ∧ QS (B + 1) B most S wr ∧ Below w.heap.size w wr) (fun _ _ i _ => ps.length - (intOf i).toNat)
      case atStart => exact ⟨0, ⟨#[]⟩, ⟨#[]⟩, [], by omega, rfl, rfl, rfl, rfl, by decide, HQ2.out, HB2.out⟩
      case round =>
        obtain ⟨k, P, T, S, hk, rfl, rfl, rfl, hpt, hps, hqs, hb⟩ := hrel
        have HPT := Kp.mk hpt
        have HQ := Kp.mk hqs
        have HB := Kp.mk hb
        have hsz := hb.size
        obtain ⟨hsm, -⟩ := hqs.le
        obtain ⟨hlb, hlg⟩ := hqs.lt
        clear hpt hqs hb
        by_cases hlt : k < ps.length
        · obtain ⟨g, o, rfl, hgl, d0⟩ := qact_cells (HV.out.below HB.out) (by omega)
          obtain ⟨c1, c2, c3⟩ := d0 k hlt
          have m1 := HPS.out ps[k] (List.getElem_mem hlt)
          obtain ⟨z1, z2, -⟩ := HZ.out ps[k] (List.getElem_mem hlt)
          have q0 : (0 : Int) ≤ (k : Int) := by omega
          have q1 : (k : Int) < (ps.length : Int) := by omega
          clear d0
          generalize ps[k].1 = op at *
          generalize ps[k].2.1 = cn at *
          generalize ps[k].2.2 = tx at *
          have HBA := Kp.mk (show Below wr.heap.size wr (wr.alloc (.cells #[.int .i64 op, .int .i64 cn, .string tx] 50)) from (Below.refl _ _).alloc (Nat.le_refl _) _)
          have HQA := Kp.mk (HQ.out.below HBA.out)
          have HBX := Kp.mk (HB.out.trans (HBA.out.mono hsz))
          have hbox : ∀ W : World, W.heap[wr.heap.size]? = (wr.alloc (.cells #[.int .i64 op, .int .i64 cn, .string tx] 50)).heap[wr.heap.size]? → W.cell? ⟨wr.heap.size, 1, none⟩ = some (.int .i64 cn) ∧ W.cell? ⟨wr.heap.size, 2, none⟩ = some (.string tx) := by
            intro W hW
            have h9 := hW.trans (heap_alloc_new wr _)
            exact ⟨blk_cell h9 rfl, blk_cell h9 rfl⟩
          have HBOX := Kp.mk hbox
          clear hbox
          go_upto_if 78 with fail
          go_cut [8, 9] (QMid w B most (300 * (k + 1)))
          case first =>
            cases h1 : (op == 1)
            · go_wp2_with fail
              refine (q_peek (B + 1) B most S cn _ HQA.out).mono ?_
              rintro e w3 ⟨rfl, hb3⟩
              have HQ3 := Kp.mk (HQA.out.below hb3)
              have HB3 := Kp.mk (HBX.out.trans (hb3.mono HBX.out.size))
              have h3k := hb3.block wr.heap.size (by simp)
              obtain ⟨d1, d2⟩ := HBOX.out w3 h3k
              have HK3 := Kp.mk h3k
              have hsz3 := hb3.size
              simp only [World.size_alloc] at hsz3
              clear hb3
              have hyl : (oB (S.take cn.toNat)).size ≤ cn.toNat := by rw [oB_size, List.length_take]; omega
              have HYL := Kp.mk (oB_list (S.take cn.toNat))
              have HYS := Kp.mk (show (oB (S.take cn.toNat)).size ≤ S.length by rw [oB_size, List.length_take]; omega)
              generalize oB (S.take cn.toNat) = y at *
              go_wp2_with fail
              refine (q_take (B + 1) B most S cn _ HQ3.out).mono ?_
              rintro e w4 ⟨rfl, hq4, ho4⟩
              rw [show oB (S.take cn.toNat) = y from by rw [← HYL.out]; simp [oB]]
              have HQ4 := Kp.mk hq4
              have HB4 := Kp.mk (HB3.out.trans (onl_own ho4 (by omega) hbw HB3.out.size))
              have h4k := (ho4.block wr.heap.size (by omega) (by omega) (by intro e; cases e; omega)).trans HK3.out
              obtain ⟨d3, d4⟩ := HBOX.out w4 h4k
              clear h3k h4k hq4 ho4
              have hpz : P.size ≤ 18000 := by omega
              have hys : y.size ≤ 2000 := by have := HYS.out; omega
              have htz : T.size ≤ 18000 := by
                have := congrArg List.length HPT.out
                rw [List.length_append, ← ba_size', ← ba_size'] at this
                omega
              have hmx : ((y.size : Int) ≤ cn ∧ 0 ≤ cn) ∨ (cn ≤ 0 ∧ y.size = 0) := by omega
              rcases hmx with ⟨hm1, hm2⟩ | ⟨hm1, hm2⟩
              all_goals
                have hm3 : ¬ (cn < (y.size : Int)) ∨ cn ≤ 0 := by omega
                go_wp2_with fail
                all_goals
                  go_meet
                  refine ⟨P, T ++ y, S.drop cn.toNat, rfl, rfl, ?_, by omega, HQ4.out, HB4.out⟩
                  rw [cat_app, HYL.out, List.append_assoc, List.take_append_drop]
                  exact HPT.out
            · obtain rfl : op = 1 := by simpa using h1
              clear h1
              obtain ⟨d1, d2⟩ := HBOX.out _ rfl
              go_wp2_with fail
              refine (q_put (B + 1) B most S tx _ HQA.out (by omega)).mono ?_
              rintro e w3 ⟨rfl, hq3, ho3⟩
              have hu1 : min tx.size (most - S.length) ≤ tx.size := Nat.min_le_left _ _
              generalize min tx.size (most - S.length) = u at *
              have HQ3 := Kp.mk hq3
              have HB3 := Kp.mk (HBX.out.trans (onl_own ho3 (by omega) hbw HBX.out.size))
              have h3k := ho3.block wr.heap.size (by simp) (by omega) (by intro e; cases e; omega)
              obtain ⟨d3, d4⟩ := HBOX.out w3 h3k
              clear hq3 ho3 h3k
              go_wp2_with fail
              go_meet
              have hel : (tx.extract 0 u).data.toList = tx.data.toList.take u := by rw [Lib.extract_data]; simp
              refine ⟨P ++ tx.extract 0 u, T, S ++ tx.data.toList.take u, rfl, rfl, ?_, ?_, HQ3.out, HB3.out⟩
              · rw [cat_app, hel, HPT.out, List.append_assoc]
              · rw [ba_size', cat_app, hel, List.length_append, List.length_take, ← ba_size', ← ba_size']; omega
          case rest =>
            clear HPT HQ HB HBA HQA HBX HBOX hps hsm hlb hlg c1 c2 c3
            obtain ⟨P2, T2, S2, rfl, rfl, hpt, hps, hqs, hb⟩ := hcut
            obtain ⟨hsm, -⟩ := hqs.le
            have HPL := Kp.mk (show P2.size = T2.size + S2.length by rw [ba_size', hpt, List.length_append, ← ba_size'])
            have HPT := Kp.mk hpt
            have HQ := Kp.mk hqs
            have HB := Kp.mk hb
            have hpz : P2.size ≤ 18000 := by omega
            have hext : P2.extract 0 T2.size = T2 := by
              have h9 : (P2.extract 0 T2.size).data.toList = T2.data.toList := by
                rw [Lib.extract_data, hpt]; simp [← ba_size']
              cases hx : P2.extract 0 T2.size with
              | mk d => rw [hx] at h9; cases T2 with | mk d2 => simp at h9; rw [h9]
            have hle2 : T2.size ≤ P2.size := by have := HPL.out; omega
            have HS2 := Kp.mk (show (S2.length : Int) = (P2.size : Int) - (T2.size : Int) by have := HPL.out; omega)
            have HR2 := Kp.mk (show ((most - S2.length : Nat) : Int) = (most : Int) - ((P2.size : Int) - (T2.size : Int)) by have := HPL.out; omega)
            clear hpt hqs hb
            have ht0 : ¬ (P2.size < T2.size) := by omega
            go_wp2_with fail
            refine (q_len _ _ _ _ _ HQ.out).mono ?_
            rintro e w3 ⟨rfl, rfl⟩
            rw [HS2.out]
            go_wp2_with fail
            refine (q_len _ _ _ _ _ HQ.out).mono ?_
            rintro e w3 ⟨rfl, rfl⟩
            rw [HS2.out]
            go_wp2_with fail
            refine (q_room _ _ _ _ _ HQ.out).mono ?_
            rintro e w3 ⟨rfl, rfl⟩
            rw [HR2.out]
            have tb : ((P2.size : Int) - (T2.size : Int) + ((most : Int) - ((P2.size : Int) - (T2.size : Int))) == (most : Int)) = true := by simp; omega
            go_wp2_with fail
            go_roundw
            case rel => exact ⟨k + 1, P2, T2, S2, by omega, by go_num, rfl, rfl, HPT.out, hps, HQ.out, HB.out⟩
            case measure => simp [intOf]; omega
        · go_wp2_with fail
          refine (q_take (B + 1) B most S (most : Int) _ HQ.out).mono ?_
          rintro e w3 ⟨rfl, hq3, ho3⟩
          have HB3 := Kp.mk (HB.out.trans (onl_own ho3 (by omega) hbw HB.out.size))
          have hfin : T ++ oB (S.take (most : Int).toNat) = P := by
            have h9 : (T ++ oB (S.take (most : Int).toNat)).data.toList = P.data.toList := by
              rw [cat_app, oB_list, HPT.out, List.take_of_length_le (by omega)]
            cases hx : T ++ oB (S.take (most : Int).toNat) with
            | mk d => rw [hx] at h9; cases P with | mk d2 => simp at h9; rw [h9]
          have htz : T.size ≤ 18000 ∧ (oB (S.take (most : Int).toNat)).size ≤ 2000 := by
            have := congrArg List.length HPT.out
            rw [List.length_append, ← ba_size', ← ba_size'] at this
            rw [oB_size, List.length_take]
            omega
          obtain ⟨htz1, htz2⟩ := htz
          clear hq3 ho3
          generalize oB (S.take (most : Int).toNat) = z at *
          go_wp2_with fail
          refine (lives3_any _).mono ?_
          rintro e w4 ⟨rfl, hb4⟩
          go_wp2_with fail
          go_ret
          exact ⟨rfl, HB3.out.trans (hb4.mono HB3.out.size)⟩
  · have hd : (m < 0 ∧ decide (m < 0) = true ∧ decide (2000 < m) = false) ∨ (¬ m < 0 ∧ decide (m < 0) = false ∧ decide (2000 < m) = true) := by
      by_cases h : m < 0
      · exact .inl ⟨h, by simpa using h, by simp; omega⟩
      · exact .inr ⟨h, by simpa using h, by simp; omega⟩
    clear hin
    rcases hd with ⟨h, h1, h2⟩ | ⟨h, h1, h2⟩
    all_goals
      go_wp2_with fail
      refine (lives3_any _).mono ?_
      rintro e w2 ⟨rfl, hb2⟩
      go_wp2_with fail
      go_ret
      exact ⟨rfl, HBP.out.trans (hb2.mono HBP.out.size)⟩
theorem qact_of {P : Program} {w : World} {t ti ts : TypeId} {fs : Array Field} {E : List Value} (ht : P.underlying t = some (.struct fs)) (hi : P.underlying ti = some (.int .i64)) (hs : P.underlying ts = some .string) (hc : P.cellsOf t = 3) (hci : P.cellsOf ti = 1) (hcs : P.cellsOf ts = 1)
    (h0 : ∃ f, fs[0]? = some f ∧ f.type = ti ∧ f.offset = 0) (h1 : ∃ f, fs[1]? = some f ∧ f.type = ti ∧ f.offset = 1) (h2 : ∃ f, fs[2]? = some f ∧ f.type = ts ∧ f.offset = 2) (h : Rdb P w t E) :
    ∃ p : QA, E = qactC p ∧ ((Lit.int .i64 p.1).wf = true ∧ (Lit.int .i64 p.2.1).wf = true ∧ p.2.2.size ≤ maxLen) := by
  obtain ⟨hl, hf⟩ := h.struct ht
  obtain ⟨f0, e0, t0, o0⟩ := h0
  obtain ⟨f1, e1, t1, o1⟩ := h1
  obtain ⟨f2, e2, t2, o2⟩ := h2
  have g0 := hf 0 f0 e0
  have g1 := hf 1 f1 e1
  have g2 := hf 2 f2 e2
  rw [t0, o0, hci] at g0
  rw [t1, o1, hci] at g1
  rw [t2, o2, hcs] at g2
  obtain ⟨s0, k0, z0⟩ := g0.int hi
  obtain ⟨s1, k1, z1⟩ := g1.int hi
  obtain ⟨s2, k2, z2⟩ := g2.str hs
  rw [hc] at hl
  match E, hl with
  | [x, y, z], _ =>
    simp at k0 k1 k2
    exact ⟨(s0, s1, s2), by simp [qactC, k0, k1, k2], z0, z1, z2⟩
theorem Try.fcellsQAct : Try.prog.cellsOf 50 = 3 := by kernel_rfl
theorem Try.fcellsQI : Try.prog.cellsOf 3 = 1 := by kernel_rfl
theorem Try.fcellsQS : Try.prog.cellsOf 9 = 1 := by kernel_rfl
theorem qacts_arg (v1 : Value) (w : World) (h1 : Arg Try.prog w 43 v1) : ∃ ps, RdL qactC 3 w v1 ps ∧ ∀ p ∈ ps, (Lit.int .i64 p.1).wf = true ∧ (Lit.int .i64 p.2.1).wf = true ∧ p.2.2.size ≤ maxLen :=
  h1.list (f := qactC) (Q := fun p => (Lit.int .i64 p.1).wf = true ∧ (Lit.int .i64 p.2.1).wf = true ∧ p.2.2.size ≤ maxLen) Try.underlying43 Try.fcellsQAct (by omega) fun E hE =>
    qact_of Try.underlying50 Try.underlying3 Try.underlying9 Try.fcellsQAct Try.fcellsQI Try.fcellsQS ⟨_, rfl, rfl, rfl⟩ ⟨_, rfl, rfl, rfl⟩ ⟨_, rfl, rfl, rfl⟩ hE
theorem qorder_arg (v0 v1 : Value) (w : World) (h0 : Arg Try.prog w 3 v0) (h1 : Arg Try.prog w 43 v1) :
    Calls Try.prog 7 #[v0, v1] w fun e w' => e = .returned (.bool true) ∧ Below w.heap.size w w' := by
  obtain ⟨m, rfl, hm⟩ := h0.int Try.underlying3
  obtain ⟨ps, hv, hz⟩ := qacts_arg v1 w h1
  exact qorder_walk m v1 ps w hv hz
end Go.Proofs.Ytkdfhhhlmeknmaa
