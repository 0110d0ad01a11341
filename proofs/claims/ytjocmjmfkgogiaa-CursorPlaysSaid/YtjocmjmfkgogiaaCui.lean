/- Texts read from their beginning: the law CursorPlays (layer 4). -/
import Derived.Test.YtjocmjmfkgogiaaCuh
import Derived.Test.YtjocmjmfkgogiaaGb
import Derived.Deep.RegionWith
import Derived.Deep.DeepCutAuto
namespace Go.Proofs.Ytjocmjmfkgogiaa
open Go.RowKit
set_option linter.unusedVariables false
set_option linter.unusedSimpArgs false

def cactC (p : Int × Int) : List Value := [.int .i64 p.1, .int .u8 p.2]
theorem cact_cells {w : World} {a : Option Addr} {c n : Nat} {l : List (Int × Int)} (h : RdL cactC 2 w (.slice a n c) l) (h0 : 0 < l.length) : ∃ b o, a = some ⟨b, o, none⟩ ∧ b < w.heap.size ∧ ∀ (j : Nat) (h : j < l.length), w.cell? ⟨b, o + j * 2, none⟩ = some (.int .i64 l[j].1) ∧ w.cell? ⟨b, o + j * 2 + 1, none⟩ = some (.int .u8 l[j].2) := by
  obtain ⟨a', c', h1, h2, h3, h4⟩ := h
  cases h1
  obtain ⟨b, o, g1, g2, g3⟩ := h4 h0
  exact ⟨b, o, g1, g2, fun j hj => ⟨by have := g3 j hj 0 (by omega); simpa [cactC] using this, by have := g3 j hj 1 (by omega); simpa [cactC] using this⟩⟩
theorem cact_take {w : World} {a : Option Addr} {c n : Nat} {l : List (Int × Int)} (h : RdL cactC 2 w (.slice a n c) l) (k : Nat) (hk : k ≤ l.length) : RdL cactC 2 w (.slice a k c) (l.take k) := by
  obtain ⟨a', c', h1, h2, h3, h4⟩ := h
  cases h1
  have hl : (l.take k).length = k := by rw [List.length_take]; omega
  refine ⟨a, c, by rw [hl], by omega, h3, fun h0 => ?_⟩
  obtain ⟨b, o, g1, g2, g3⟩ := h4 (by omega)
  exact ⟨b, o, g1, g2, fun j hj i hi => by rw [List.getElem_take]; exact g3 j (by omega) i hi⟩
theorem ext_fromc (x : ByteArray) (k : Nat) : x.extract k x.size = fromB x k := rfl
theorem ext_upc (x : ByteArray) (k : Nat) : x.extract 0 k = upB x k := rfl
theorem CurAt.drewN {b n : Nat} {s : ByteArray} {w : World} (h : CurAt b s n w) (m : Nat) : CurAt b s n (w.drewN m) := h.kept (below_drewN _ _)
theorem CurAt.drew {b n : Nat} {s : ByteArray} {w : World} (h : CurAt b s n w) : CurAt b s n w.drew := h.drewN 1
theorem tl_ofs {x : ByteArray} (h : x.size = 0) : x.toList = [] := by rw [ByteArray.toList_eq, ← List.length_eq_zero_iff]; simpa using h
theorem tl_nes {x : ByteArray} (h : x.size ≠ 0) : x.toList.isEmpty = false := by
  cases hh : x.toList.isEmpty
  · rfl
  · rw [List.isEmpty_iff, ByteArray.toList_eq, ← List.length_eq_zero_iff] at hh; exact absurd (by simpa using hh) h
theorem CurTo.undrew {b m : Nat} {s : ByteArray} {w w' : World} (h : CurTo b s m w.drew w') : CurTo b s m w w' := ⟨⟨h.1.os, h.1.tape, h.1.output, h.1.size, h.1.block⟩, h.2⟩
def CPlay (w : World) (s0 s1 : Value) (wx : World) : Prop := ∃ (x : ByteArray) (l : List (Int × Int)), s0 = .string x ∧ x.size ≤ 1000 ∧ l.length ≤ 40 ∧ RdL cactC 2 w s1 l ∧ (∀ p ∈ l, (Lit.int .i64 p.1).wf = true ∧ (Lit.int .u8 p.2).wf = true) ∧ Below w.heap.size w wx
set_option maxRecDepth 100000 in
set_option maxHeartbeats 4000000 in
theorem cplays_core (s x : ByteArray) (hc : Cut 1000 s x) (hs : s.size ≤ maxLen) (v : Value) (l : List (Int × Int)) (w : World) (hv : RdL cactC 2 w v l) (hz : ∀ p ∈ l, (Lit.int .i64 p.1).wf = true ∧ (Lit.int .u8 p.2).wf = true) :
    Calls Try.prog 3 #[.string s, v] w fun e w' => e = .returned (.bool true) ∧ Below w.heap.size w w' := by
  have hL := hc.le
  unfold maxLen at hs
  have HV := Kp.mk hv
  have HZ := Kp.mk hz
  obtain ⟨a, cap, rfl, m1, m2, -⟩ := hv
  have hll : l.length ≤ 9223372036854775807 := by unfold maxLen at m2; omega
  have hcc : cap ≤ 9223372036854775807 := by unfold maxLen at m2; omega
  clear hz m2
  go_enter Try.func3, Try.ntmps3
  go_upto_region 1 with fail
  go_cut [0, 1] (CPlay w)
  case first =>
    rcases hc with ⟨hn, hx⟩ | ⟨hn, hx⟩
    all_goals
      have HX := Kp.mk hx
      clear hx
      by_cases h40 : l.length ≤ 40
    all_goals
      go_quiet (fail)
      go_wp2_with fail
      go_meet
    · exact ⟨_, l, rfl, by omega, h40, HV.out, HZ.out, gdrewN _ _⟩
    · exact ⟨_, l.take 40, rfl, by omega, by rw [List.length_take]; omega, cact_take HV.out 40 (by omega), fun p hp => HZ.out p (List.mem_of_mem_take hp), gdrewN _ _⟩
    · exact ⟨_, l, by rw [← HX.out], hL, h40, HV.out, HZ.out, gdrewN _ _⟩
    · exact ⟨_, l.take 40, by rw [← HX.out], hL, by rw [List.length_take]; omega, cact_take HV.out 40 (by omega), fun p hp => HZ.out p (List.mem_of_mem_take hp), gdrewN _ _⟩
  case rest =>
    clear HV HZ hL hs hc m1 hll hcc
    obtain ⟨S, L, rfl, hS, hL40, hv, hz, hbx⟩ := hcut
    have HV := Kp.mk hv
    have HZ := Kp.mk hz
    have HBX := Kp.mk hbx
    obtain ⟨a2, cap2, rfl, n1, -, -⟩ := hv
    clear hz hbx
    go_wp2_with fail
    refine (cur_new _ _ (by omega)).mono ?_
    rintro e w1 ⟨rfl, hb1, hc1⟩
    have HB1 := Kp.mk (HBX.out.trans (hb1.mono HBX.out.size))
    have hcb := HBX.out.size
    have HC1 := Kp.mk hc1
    clear hb1 hc1
    generalize wc.heap.size = cb at *
    go_wp2_with fail
    go_loopw [0, 28] (fun st i wr => ∃ (k n : Nat), k ≤ L.length ∧ i = .int .i64 k ∧ st = .string (fromB S n) ∧ CurAt cb S n wr ∧ Below w.heap.size w wr) (fun _ i _ => L.length - (intOf i).toNat)
    case atStart => exact ⟨0, 0, by omega, rfl, by rw [fromB_zero], HC1.out, HB1.out⟩
    case round =>
      obtain ⟨k, n, hk, rfl, rfl, hcu, hb⟩ := hrel
      have HCU := Kp.mk hcu
      have HB := Kp.mk hb
      have hsz := hb.size
      have hnl := hcu.le
      have hxs : (fromB S n).size ≤ 1000 := by rw [fromB_size]; omega
      clear hcu hb
      by_cases hlt : k < L.length
      · obtain ⟨g, o, rfl, hgl, d0⟩ := cact_cells (HV.out.below HB.out) (by omega)
        obtain ⟨c1, c2⟩ := d0 k hlt
        obtain ⟨z1, z2⟩ := HZ.out L[k] (List.getElem_mem hlt)
        have q0 : (0 : Int) ≤ (k : Int) := by omega
        have q1 : (k : Int) < (L.length : Int) := by omega
        clear d0
        generalize L[k].1 = op at *
        generalize L[k].2 = by_ at *
        have hw1 : op = 1 ∨ op = 2 ∨ op = 3 ∨ op = 4 ∨ ((op == 1) = false ∧ (op == 2) = false ∧ (op == 3) = false ∧ (op == 4) = false) := by
          by_cases h1 : op = 1
          · exact .inl h1
          · by_cases h2 : op = 2
            · exact .inr (.inl h2)
            · by_cases h3 : op = 3
              · exact .inr (.inr (.inl h3))
              · by_cases h4 : op = 4
                · exact .inr (.inr (.inr (.inl h4)))
                · exact .inr (.inr (.inr (.inr ⟨by simp [h1], by simp [h2], by simp [h3], by simp [h4]⟩)))
        have HBA := Kp.mk (show Below wr.heap.size wr (wr.alloc (.cells #[.int .i64 op, .int .u8 by_] 26)) from (Below.refl _ _).alloc (Nat.le_refl _) _)
        have HCA := Kp.mk (HCU.out.kept HBA.out)
        have HBW := Kp.mk (HB.out.trans (HBA.out.mono hsz))
        rcases hw1 with rfl | rfl | rfl | rfl | ⟨o1, o2, o3, o4⟩
        · -- Byte
          by_cases hx0 : (fromB S n).size = 0
          · have hxe := tl_ofs hx0
            have t1 : decide ((0 : Int) < ((fromB S n).size : Int)) = false := decide_eq_false (by omega)
            have t2 : decide (0 < (fromB S n).size) = false := decide_eq_false (by omega)
            have HNO := Kp.mk (show n < S.size → ¬ (bt S n : Int) = by_ from fun h _ => by have h2 := fromB_size S n; omega)
            have HX0 := Kp.mk hx0
            clear hx0
            go_wp2_with fail
            go_quiet (fail)
            go_wp2_with fail
            refine (cur_byte_no cb n S by_ _ (by first | exact HCA.out | exact HCA.out.drewN _) HNO.out).mono ?_
            rintro e w2 ⟨rfl, hb2⟩
            have ht2 : CurTo cb S n (wr.alloc (.cells #[.int .i64 1, .int .u8 by_] 26)) w2 := ⟨But.of (Below.trans (gdrewN _ _) hb2), (HCA.out.drewN _).kept hb2⟩
            have HT2 := Kp.mk ht2
            clear ht2
            have HC2 := Kp.mk HT2.out.2
            have HB2 := Kp.mk (HBW.out.trans (HT2.out.1.below hcb HBW.out.size))
            go_wp2_with fail
            try simp only [ext_fromc, fromB_from]
            refine (cur_left _ _ _ _ HC2.out).mono ?_
            rintro e w4 ⟨rfl, hb4⟩
            have HC4 := Kp.mk (HC2.out.kept hb4)
            have HB4 := Kp.mk (HB2.out.trans (hb4.mono HB2.out.size))
            clear hb4
            have hd2 : decide ((fromB S n).size = 0) = true := decide_eq_true HX0.out
            go_wp2_with fail
            refine (cur_done _ _ _ _ HC4.out).mono ?_
            rintro e w5 ⟨rfl, hb5⟩
            rw [hd2]
            have HC5 := Kp.mk (HC4.out.kept hb5)
            have HB5 := Kp.mk (HB4.out.trans (hb5.mono HB4.out.size))
            clear hb5
            go_wp2_with fail
            go_roundw
            case rel => exact ⟨k + 1, n, by omega, by go_num, rfl, HC5.out, HB5.out⟩
            case measure => simp [intOf]; omega
          · have hx1 : 0 < (fromB S n).size := by omega
            have hns : n < S.size := by rw [fromB_size] at hx1; omega
            have t1 : decide ((0 : Int) < ((fromB S n).size : Int)) = true := decide_eq_true (by omega)
            have t2 : decide (0 < (fromB S n).size) = true := decide_eq_true (by omega)
            have HBT := Kp.mk (show ((fromB S n)[0].toNat : Int) = (bt S n : Int) by rw [bt_at, fromB_bt S n 0 (by omega)]; rfl)
            have HNS := Kp.mk hns
            clear hx0
            by_cases hby : (bt S n : Int) = by_
            · have t3 : (((fromB S n)[0].toNat : Int) == by_) = true := by rw [HBT.out, hby]; simp
              have HBY := Kp.mk hby
              clear hby
              go_wp2_with fail
              go_quiet (fail)
              go_wp2_with fail
              refine (cur_byte_yes cb n S by_ _ (by first | exact HCA.out | exact HCA.out.drewN _) HNS.out HBY.out).mono ?_
              rintro e w2 ⟨rfl, ht3⟩
              have ht2 : CurTo cb S (n + 1) (wr.alloc (.cells #[.int .i64 1, .int .u8 by_] 26)) w2 := ⟨⟨ht3.1.os, ht3.1.tape, ht3.1.output, ht3.1.size, ht3.1.block⟩, ht3.2⟩
              clear ht3
              have HT2 := Kp.mk ht2
              clear ht2
              have HC2 := Kp.mk HT2.out.2
              have HB2 := Kp.mk (HBW.out.trans (HT2.out.1.below hcb HBW.out.size))
              go_wp2_with fail
              try simp only [ext_fromc, fromB_from]
              refine (cur_left _ _ _ _ HC2.out).mono ?_
              rintro e w4 ⟨rfl, hb4⟩
              have HC4 := Kp.mk (HC2.out.kept hb4)
              have HB4 := Kp.mk (HB2.out.trans (hb4.mono HB2.out.size))
              clear hb4
              by_cases hz0 : (fromB S (n + 1)).size = 0
              all_goals
                have hze := hz0
                first | (have hd := tl_ofs hz0; have hd2 : decide ((fromB S (n + 1)).size = 0) = true := decide_eq_true hz0) | (have hd := tl_nes hz0; have hd2 : decide ((fromB S (n + 1)).size = 0) = false := decide_eq_false hz0)
                clear hz0 hze
                go_wp2_with fail
                refine (cur_done _ _ _ _ HC4.out).mono ?_
                rintro e w5 ⟨rfl, hb5⟩
                rw [hd2]
                have HC5 := Kp.mk (HC4.out.kept hb5)
                have HB5 := Kp.mk (HB4.out.trans (hb5.mono HB4.out.size))
                clear hb5
                go_wp2_with fail
                go_roundw
                case rel => exact ⟨k + 1, n + 1, by omega, by go_num, rfl, HC5.out, HB5.out⟩
                case measure => simp [intOf]; omega
            · have t3 : (((fromB S n)[0].toNat : Int) == by_) = false := by rw [HBT.out]; simpa using hby
              have HNO := Kp.mk (show n < S.size → ¬ (bt S n : Int) = by_ from fun _ => hby)
              clear hby
              go_wp2_with fail
              go_quiet (fail)
              go_wp2_with fail
              refine (cur_byte_no cb n S by_ _ (by first | exact HCA.out | exact HCA.out.drewN _) HNO.out).mono ?_
              rintro e w2 ⟨rfl, hb2⟩
              have ht2 : CurTo cb S n (wr.alloc (.cells #[.int .i64 1, .int .u8 by_] 26)) w2 := ⟨But.of (Below.trans (gdrewN _ _) hb2), (HCA.out.drewN _).kept hb2⟩
              have HT2 := Kp.mk ht2
              clear ht2
              have HC2 := Kp.mk HT2.out.2
              have HB2 := Kp.mk (HBW.out.trans (HT2.out.1.below hcb HBW.out.size))
              go_wp2_with fail
              try simp only [ext_fromc, fromB_from]
              refine (cur_left _ _ _ _ HC2.out).mono ?_
              rintro e w4 ⟨rfl, hb4⟩
              have HC4 := Kp.mk (HC2.out.kept hb4)
              have HB4 := Kp.mk (HB2.out.trans (hb4.mono HB2.out.size))
              clear hb4
              by_cases hz0 : (fromB S n).size = 0
              all_goals
                have hze := hz0
                first | (have hd := tl_ofs hz0; have hd2 : decide ((fromB S n).size = 0) = true := decide_eq_true hz0) | (have hd := tl_nes hz0; have hd2 : decide ((fromB S n).size = 0) = false := decide_eq_false hz0)
                clear hz0 hze
                go_wp2_with fail
                refine (cur_done _ _ _ _ HC4.out).mono ?_
                rintro e w5 ⟨rfl, hb5⟩
                rw [hd2]
                have HC5 := Kp.mk (HC4.out.kept hb5)
                have HB5 := Kp.mk (HB4.out.trans (hb5.mono HB4.out.size))
                clear hb5
                go_wp2_with fail
                go_roundw
                case rel => exact ⟨k + 1, n, by omega, by go_num, rfl, HC5.out, HB5.out⟩
                case measure => simp [intOf]; omega
        · -- Skip
          have hpl := preN_le blankN (fromB S n)
          go_wp2_with fail
          refine (ref_skip_any _ _ (by unfold maxLen; omega)).mono ?_
          rintro e w2 ⟨rfl, rfl⟩
          go_wp2_with fail
          refine (cur_skip _ _ _ _ HCA.out).mono ?_
          rintro e w2 ⟨rfl, ht2⟩
          have HT2 := Kp.mk ht2
          clear ht2
          have HC2 := Kp.mk HT2.out.2
          have HB2 := Kp.mk (HBW.out.trans (HT2.out.1.below hcb HBW.out.size))
          go_wp2_with fail
          try simp only [ext_fromc, fromB_from]
          refine (cur_left _ _ _ _ HC2.out).mono ?_
          rintro e w4 ⟨rfl, hb4⟩
          have HC4 := Kp.mk (HC2.out.kept hb4)
          have HB4 := Kp.mk (HB2.out.trans (hb4.mono HB2.out.size))
          clear hb4
          by_cases hz0 : (fromB S (n + preN blankN (fromB S n))).size = 0
          all_goals
            have hze := hz0
            first | (have hd := tl_ofs hz0; have hd2 : decide ((fromB S (n + preN blankN (fromB S n))).size = 0) = true := decide_eq_true hz0) | (have hd := tl_nes hz0; have hd2 : decide ((fromB S (n + preN blankN (fromB S n))).size = 0) = false := decide_eq_false hz0)
            clear hz0 hze
            go_wp2_with fail
            refine (cur_done _ _ _ _ HC4.out).mono ?_
            rintro e w5 ⟨rfl, hb5⟩
            rw [hd2]
            have HC5 := Kp.mk (HC4.out.kept hb5)
            have HB5 := Kp.mk (HB4.out.trans (hb5.mono HB4.out.size))
            clear hb5
            go_wp2_with fail
            go_roundw
            case rel => exact ⟨k + 1, n + preN blankN (fromB S n), by omega, by go_num, rfl, HC5.out, HB5.out⟩
            case measure => simp [intOf]; omega
        · -- Token
          have hpl := preN_le tcharB (fromB S n)
          go_wp2_with fail
          refine (ref_token4_any _ _ (by unfold maxLen; omega)).mono ?_
          rintro e w2 ⟨rfl, rfl⟩
          go_wp2_with fail
          first | go_region_with (go_at_call 18; refine (cur_token cb n S _ (by first | exact HCA.out | exact HCA.out.drew | exact HCA.out.drewN _)).mono ?_; rintro e w2 ⟨rfl, ht2⟩) | fail
          replace ht2 := ht2.undrew
          go_simp
          simp only [ext_upc]
          have HT2 := Kp.mk ht2
          clear ht2
          have HC2 := Kp.mk HT2.out.2
          have HB2 := Kp.mk (HBW.out.trans (HT2.out.1.below hcb HBW.out.size))
          go_wp2_with fail
          try simp only [ext_fromc, fromB_from]
          refine (cur_left _ _ _ _ HC2.out).mono ?_
          rintro e w4 ⟨rfl, hb4⟩
          have HC4 := Kp.mk (HC2.out.kept hb4)
          have HB4 := Kp.mk (HB2.out.trans (hb4.mono HB2.out.size))
          clear hb4
          by_cases hz0 : (fromB S (n + preN tcharB (fromB S n))).size = 0
          all_goals
            have hze := hz0
            first | (have hd := tl_ofs hz0; have hd2 : decide ((fromB S (n + preN tcharB (fromB S n))).size = 0) = true := decide_eq_true hz0) | (have hd := tl_nes hz0; have hd2 : decide ((fromB S (n + preN tcharB (fromB S n))).size = 0) = false := decide_eq_false hz0)
            clear hz0 hze
            go_wp2_with fail
            refine (cur_done _ _ _ _ HC4.out).mono ?_
            rintro e w5 ⟨rfl, hb5⟩
            rw [hd2]
            have HC5 := Kp.mk (HC4.out.kept hb5)
            have HB5 := Kp.mk (HB4.out.trans (hb5.mono HB4.out.size))
            clear hb5
            go_wp2_with fail
            go_roundw
            case rel => exact ⟨k + 1, n + preN tcharB (fromB S n), by omega, by go_num, rfl, HC5.out, HB5.out⟩
            case measure => simp [intOf]; omega
        · -- Until
          have hpl := preN_le (notB by_) (fromB S n)
          go_wp2_with fail
          refine (ref_until_any _ _ _ (by unfold maxLen; omega)).mono ?_
          rintro e w2 ⟨rfl, rfl⟩
          go_wp2_with fail
          first | go_region_with (go_at_call 20; refine (cur_until cb n S by_ _ (by first | exact HCA.out | exact HCA.out.drew | exact HCA.out.drewN _)).mono ?_; rintro e w2 ⟨rfl, ht2⟩) | fail
          replace ht2 := ht2.undrew
          go_simp
          simp only [ext_upc]
          have HT2 := Kp.mk ht2
          clear ht2
          have HC2 := Kp.mk HT2.out.2
          have HB2 := Kp.mk (HBW.out.trans (HT2.out.1.below hcb HBW.out.size))
          go_wp2_with fail
          try simp only [ext_fromc, fromB_from]
          refine (cur_left _ _ _ _ HC2.out).mono ?_
          rintro e w4 ⟨rfl, hb4⟩
          have HC4 := Kp.mk (HC2.out.kept hb4)
          have HB4 := Kp.mk (HB2.out.trans (hb4.mono HB2.out.size))
          clear hb4
          by_cases hz0 : (fromB S (n + preN (notB by_) (fromB S n))).size = 0
          all_goals
            have hze := hz0
            first | (have hd := tl_ofs hz0; have hd2 : decide ((fromB S (n + preN (notB by_) (fromB S n))).size = 0) = true := decide_eq_true hz0) | (have hd := tl_nes hz0; have hd2 : decide ((fromB S (n + preN (notB by_) (fromB S n))).size = 0) = false := decide_eq_false hz0)
            clear hz0 hze
            go_wp2_with fail
            refine (cur_done _ _ _ _ HC4.out).mono ?_
            rintro e w5 ⟨rfl, hb5⟩
            rw [hd2]
            have HC5 := Kp.mk (HC4.out.kept hb5)
            have HB5 := Kp.mk (HB4.out.trans (hb5.mono HB4.out.size))
            clear hb5
            go_wp2_with fail
            go_roundw
            case rel => exact ⟨k + 1, n + preN (notB by_) (fromB S n), by omega, by go_num, rfl, HC5.out, HB5.out⟩
            case measure => simp [intOf]; omega
        · -- Quoted
          have hpl := quotedN_le (fromB S n)
          go_wp2_with fail
          refine (ref_quoted_any _ _ (by omega)).mono ?_
          rintro e w2 ⟨rfl, rfl⟩
          go_wp2_with fail
          refine (cur_quoted _ _ _ _ HCA.out (by omega)).mono ?_
          rintro e w2 ⟨rfl, ht2⟩
          have HT2 := Kp.mk ht2
          clear ht2
          have HC2 := Kp.mk HT2.out.2
          have HB2 := Kp.mk (HBW.out.trans (HT2.out.1.below hcb HBW.out.size))
          go_wp2_with fail
          try simp only [ext_fromc, fromB_from]
          refine (cur_left _ _ _ _ HC2.out).mono ?_
          rintro e w4 ⟨rfl, hb4⟩
          have HC4 := Kp.mk (HC2.out.kept hb4)
          have HB4 := Kp.mk (HB2.out.trans (hb4.mono HB2.out.size))
          clear hb4
          by_cases hz0 : (fromB S (n + quotedN (fromB S n))).size = 0
          all_goals
            have hze := hz0
            first | (have hd := tl_ofs hz0; have hd2 : decide ((fromB S (n + quotedN (fromB S n))).size = 0) = true := decide_eq_true hz0) | (have hd := tl_nes hz0; have hd2 : decide ((fromB S (n + quotedN (fromB S n))).size = 0) = false := decide_eq_false hz0)
            clear hz0 hze
            go_wp2_with fail
            refine (cur_done _ _ _ _ HC4.out).mono ?_
            rintro e w5 ⟨rfl, hb5⟩
            rw [hd2]
            have HC5 := Kp.mk (HC4.out.kept hb5)
            have HB5 := Kp.mk (HB4.out.trans (hb5.mono HB4.out.size))
            clear hb5
            go_wp2_with fail
            go_roundw
            case rel => exact ⟨k + 1, n + quotedN (fromB S n), by omega, by go_num, rfl, HC5.out, HB5.out⟩
            case measure => simp [intOf]; omega
      · go_wp2_with fail
        refine (lives4_any _).mono ?_
        rintro e w3 ⟨rfl, hb3⟩
        go_wp2_with fail
        go_ret
        exact ⟨rfl, HB.out.trans (hb3.mono hsz)⟩
theorem cact_of {P : Program} {w : World} {t ti tb : TypeId} {fs : Array Field} {E : List Value} (ht : P.underlying t = some (.struct fs)) (hi : P.underlying ti = some (.int .i64)) (hb : P.underlying tb = some (.int .u8)) (hc : P.cellsOf t = 2) (hci : P.cellsOf ti = 1) (hcb : P.cellsOf tb = 1)
    (h0 : ∃ f, fs[0]? = some f ∧ f.type = ti ∧ f.offset = 0) (h1 : ∃ f, fs[1]? = some f ∧ f.type = tb ∧ f.offset = 1) (h : Rdb P w t E) : ∃ p : Int × Int, E = cactC p ∧ ((Lit.int .i64 p.1).wf = true ∧ (Lit.int .u8 p.2).wf = true) := by
  obtain ⟨hl, hf⟩ := h.struct ht
  obtain ⟨f0, e0, t0, o0⟩ := h0
  obtain ⟨f1, e1, t1, o1⟩ := h1
  have g0 := hf 0 f0 e0
  have g1 := hf 1 f1 e1
  rw [t0, o0, hci] at g0
  rw [t1, o1, hcb] at g1
  obtain ⟨s0, k0, z0⟩ := g0.int hi
  obtain ⟨s1, k1, z1⟩ := g1.int hb
  rw [hc] at hl
  match E, hl with
  | [x, y], _ =>
    simp at k0 k1
    exact ⟨(s0, s1), by simp [cactC, k0, k1], z0, z1⟩
theorem Try.fcellsCAct : Try.prog.cellsOf 26 = 2 := by kernel_rfl
theorem Try.fcellsCI : Try.prog.cellsOf 3 = 1 := by kernel_rfl
theorem Try.fcellsCB : Try.prog.cellsOf 5 = 1 := by kernel_rfl
theorem cplays_arg (v0 v1 : Value) (w : World) (h0 : Arg Try.prog w 9 v0) (h1 : Arg Try.prog w 22 v1) :
    Calls Try.prog 3 #[v0, v1] w fun e w' => e = .returned (.bool true) ∧ Below w.heap.size w w' := by
  obtain ⟨s, rfl, hs⟩ := h0.str Try.underlying9
  obtain ⟨ps, hv, hz⟩ := h1.list (f := cactC) (Q := fun p => (Lit.int .i64 p.1).wf = true ∧ (Lit.int .u8 p.2).wf = true) Try.underlying22 Try.fcellsCAct (by omega) fun E hE => cact_of Try.underlying26 Try.underlying3 Try.underlying5 Try.fcellsCAct Try.fcellsCI Try.fcellsCB ⟨_, rfl, rfl, rfl⟩ ⟨_, rfl, rfl, rfl⟩ hE
  obtain ⟨x, hx⟩ := cut_any 1000 s
  exact cplays_core s x hx hs v1 ps w hv hz
end Go.Proofs.Ytjocmjmfkgogiaa
