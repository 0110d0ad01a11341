/- First lines (layer 15): the law StartBack. -/
import Derived.Test.YtpgeheblmpjndaaStu
import Derived.Deep.DeepCutAuto
namespace Go.Proofs.Ytpgeheblmpjndaa
open Go.RowKit
set_option linter.unusedVariables false
set_option linter.unusedSimpArgs false

theorem reqM_size (x : ByteArray) : (reqM x).size ≤ x.size := by
  unfold reqM
  split
  · exact ext_sizeS _ _ _
  · exact Nat.zero_le _
theorem reqT_size (x : ByteArray) : (reqT x).size ≤ x.size := by
  unfold reqT
  split
  · exact Nat.le_trans (ext_sizeS _ _ _) (ext_sizeS _ _ _)
  · exact Nat.zero_le _
theorem staR_size (x : ByteArray) : (staR x).size ≤ x.size := by
  unfold staR
  split
  · exact ext_sizeS _ _ _
  · exact Nat.zero_le _
theorem sta_le (x : ByteArray) : staS x ≤ 599 := by
  rcases sta_cases x with ⟨-, -, -, h, -⟩ | ⟨-, -, -, -, h, -⟩ | ⟨-, -, -, -, -, h, -⟩ | ⟨-, -, -, -, -, -, -, h, -⟩ | ⟨-, -, -, h4, -, -, -, h, -⟩ <;> omega
set_option maxRecDepth 100000 in
set_option maxHeartbeats 4000000 in
theorem sback_walk (s : ByteArray) (w : World) (hs : s.size ≤ maxLen) : Calls Try.prog 6 #[.string s] w fun e w' => e = .returned (.bool true) ∧ Below w.heap.size w w' := by
  unfold maxLen at hs
  go_enter Try.func6, Try.ntmps6
  go_upto_region 1 with fail
  go_cut [0] (LMid w)
  case first =>
    have E1 := Kp.mk (ext_toS s 1000)
    by_cases h1 : s.size ≤ 1000
    all_goals
      go_wp2_with fail
      go_meet
      exact ⟨_, rfl, by first | assumption | exact E1.out, rfl⟩
  case rest =>
    obtain ⟨x, rfl, hx, rfl⟩ := hcut
    have hx2 : x.size ≤ 1000000 := by omega
    have z1 := reqM_size x
    have z2 := reqT_size x
    have z3 := staR_size x
    have HW := Kp.mk (Below.refl wc.heap.size wc)
    clear hs
    by_cases hq : reqE x = 0
    · have HQE := Kp.mk hq
      have HQB := Kp.mk (show reqM (lineH (reqM x) (reqT x) (reqN x) 0 ⟨#[]⟩) = reqM x ∧ reqT (lineH (reqM x) (reqT x) (reqN x) 0 ⟨#[]⟩) = reqT x ∧ reqN (lineH (reqM x) (reqT x) (reqN x) 0 ⟨#[]⟩) = reqN x ∧ reqE (lineH (reqM x) (reqT x) (reqN x) 0 ⟨#[]⟩) = 0 from ⟨(req_back hq).2.2.1, (req_back hq).2.2.2.1, (req_back hq).2.2.2.2, (req_back hq).2.1⟩)
      have HQBsz := Kp.mk (lineH_size (reqM x) (reqT x) (reqN x) 0 ⟨#[]⟩ (by omega) (by omega) (by decide))
      obtain ⟨y1, y2⟩ := emp_neS (req_back hq).1
      clear hq
      by_cases hst : staE x = 0
      · have HSE := Kp.mk hst
        have HSB := Kp.mk (show staN (lineH ⟨#[]⟩ ⟨#[]⟩ (staN x) (staS x) (staR x)) = staN x ∧ staS (lineH ⟨#[]⟩ ⟨#[]⟩ (staN x) (staS x) (staR x)) = staS x ∧ staR (lineH ⟨#[]⟩ ⟨#[]⟩ (staN x) (staS x) (staR x)) = staR x ∧ staE (lineH ⟨#[]⟩ ⟨#[]⟩ (staN x) (staS x) (staR x)) = 0 from ⟨(sta_back hst).2.2.1, (sta_back hst).2.2.2.1, (sta_back hst).2.2.2.2, (sta_back hst).2.1⟩)
        have HSBsz := Kp.mk (lineH_size ⟨#[]⟩ ⟨#[]⟩ (staN x) (staS x) (staR x) (by decide) (by decide) (by omega))
        have y3 : ¬ staS x < 100 := by have := (sta_back hst).1; omega
        have y4 := sta_le x
        clear hst
        go_wp2_with fail
        refine (request_any x _ hx2).mono ?_
        rintro e v1 ⟨rfl, hb1⟩
        have K1 := Kp.mk (heap_alloc_new v1 (.cells #[.string (reqM x), .string (reqT x), .int .i64 (reqN x), .int .i64 0, .string ⟨#[]⟩, .slice none 0 0] 24))
        have HB1a := Kp.mk (HW.out.trans (hb1.mono HW.out.size))
        have HB1 := Kp.mk (HB1a.out.alloc HB1a.out.size (.cells #[.string (reqM x), .string (reqT x), .int .i64 (reqN x), .int .i64 0, .string ⟨#[]⟩, .slice none 0 0] 24))
        clear hb1
        rw [HQE.out]
        go_wp2_with fail
        refine (line15_any (reqM x) (reqT x) (reqN x) 0 ⟨#[]⟩ none 0 0 _ (by omega) (by omega) (by decide) (by omega) (by omega)).mono ?_
        rintro e u1 ⟨rfl, hc1⟩
        have J1 := Kp.mk ((hc1.block v1.heap.size (blk_lt K1.out)).trans K1.out)
        have HC1 := Kp.mk (HB1.out.trans (hc1.mono HB1.out.size))
        clear hc1
        go_wp2_with fail
        refine (request_any (lineH (reqM x) (reqT x) (reqN x) 0 ⟨#[]⟩) _ HQBsz.out).mono ?_
        rintro e r1 ⟨rfl, hd1⟩
        rw [HQB.out.1, HQB.out.2.1, HQB.out.2.2.1, HQB.out.2.2.2]
        have I1 := Kp.mk (blk_alloc (o2 := .cells #[.string (reqM x), .string (reqT x), .int .i64 (reqN x), .int .i64 0, .string ⟨#[]⟩, .slice none 0 0] 24) ((hd1.block v1.heap.size (blk_lt J1.out)).trans J1.out))
        have HD1a := Kp.mk (HC1.out.trans (hd1.mono HC1.out.size))
        have HD1 := Kp.mk (HD1a.out.alloc HD1a.out.size (.cells #[.string (reqM x), .string (reqT x), .int .i64 (reqN x), .int .i64 0, .string ⟨#[]⟩, .slice none 0 0] 24))
        clear hd1
        have g0 := blk_cell (i := 0) I1.out rfl
        have g1 := blk_cell (i := 1) I1.out rfl
        have g2 := blk_cell (i := 2) I1.out rfl
        have g3 := blk_cell (i := 3) I1.out rfl
        have g4 := blk_cell (i := 4) I1.out rfl
        have g5 := blk_cell (i := 5) I1.out rfl
        go_wp2_with fail
        refine (same15_any _ _ _ _ _ _ _ _ _ _ _ _).mono ?_
        rintro e s1 ⟨rfl, he1⟩
        have F1 := Kp.mk ((he1.block v1.heap.size (blk_lt I1.out)).trans I1.out)
        have HE1 := Kp.mk (HD1.out.trans (he1.mono HD1.out.size))
        clear he1 g0 g1 g2 g3 g4 g5
        have g0 := blk_cell (i := 0) F1.out rfl
        have g1 := blk_cell (i := 1) F1.out rfl
        have g2 := blk_cell (i := 2) F1.out rfl
        have g3 := blk_cell (i := 3) F1.out rfl
        have g4 := blk_cell (i := 4) F1.out rfl
        have g5 := blk_cell (i := 5) F1.out rfl
        go_wp2_with fail
        clear g0 g1 g2 g3 g4 g5
        refine (status_any x _ hx2).mono ?_
        rintro e v2 ⟨rfl, hb2⟩
        have K2 := Kp.mk (heap_alloc_new v2 (.cells #[.string ⟨#[]⟩, .string ⟨#[]⟩, .int .i64 (staN x), .int .i64 (staS x), .string (staR x), .slice none 0 0] 24))
        have HB2a := Kp.mk (HE1.out.trans (hb2.mono HE1.out.size))
        have HB2 := Kp.mk (HB2a.out.alloc HB2a.out.size (.cells #[.string ⟨#[]⟩, .string ⟨#[]⟩, .int .i64 (staN x), .int .i64 (staS x), .string (staR x), .slice none 0 0] 24))
        clear hb2
        rw [HSE.out]
        go_wp2_with fail
        refine (line15_any ⟨#[]⟩ ⟨#[]⟩ (staN x) (staS x) (staR x) none 0 0 _ (by decide) (by decide) (by omega) (by omega) (by omega)).mono ?_
        rintro e u2 ⟨rfl, hc2⟩
        have J2 := Kp.mk ((hc2.block v2.heap.size (blk_lt K2.out)).trans K2.out)
        have HC2 := Kp.mk (HB2.out.trans (hc2.mono HB2.out.size))
        clear hc2
        go_wp2_with fail
        refine (status_any (lineH ⟨#[]⟩ ⟨#[]⟩ (staN x) (staS x) (staR x)) _ HSBsz.out).mono ?_
        rintro e r2 ⟨rfl, hd2⟩
        rw [HSB.out.1, HSB.out.2.1, HSB.out.2.2.1, HSB.out.2.2.2]
        have I2 := Kp.mk (blk_alloc (o2 := .cells #[.string ⟨#[]⟩, .string ⟨#[]⟩, .int .i64 (staN x), .int .i64 (staS x), .string (staR x), .slice none 0 0] 24) ((hd2.block v2.heap.size (blk_lt J2.out)).trans J2.out))
        have HD2a := Kp.mk (HC2.out.trans (hd2.mono HC2.out.size))
        have HD2 := Kp.mk (HD2a.out.alloc HD2a.out.size (.cells #[.string ⟨#[]⟩, .string ⟨#[]⟩, .int .i64 (staN x), .int .i64 (staS x), .string (staR x), .slice none 0 0] 24))
        clear hd2
        have g0 := blk_cell (i := 0) I2.out rfl
        have g1 := blk_cell (i := 1) I2.out rfl
        have g2 := blk_cell (i := 2) I2.out rfl
        have g3 := blk_cell (i := 3) I2.out rfl
        have g4 := blk_cell (i := 4) I2.out rfl
        have g5 := blk_cell (i := 5) I2.out rfl
        go_wp2_with fail
        refine (same15_any _ _ _ _ _ _ _ _ _ _ _ _).mono ?_
        rintro e s2 ⟨rfl, he2⟩
        have F2 := Kp.mk ((he2.block v2.heap.size (blk_lt I2.out)).trans I2.out)
        have HE2 := Kp.mk (HD2.out.trans (he2.mono HD2.out.size))
        clear he2 g0 g1 g2 g3 g4 g5
        have g0 := blk_cell (i := 0) F2.out rfl
        have g1 := blk_cell (i := 1) F2.out rfl
        have g2 := blk_cell (i := 2) F2.out rfl
        have g3 := blk_cell (i := 3) F2.out rfl
        have g4 := blk_cell (i := 4) F2.out rfl
        have g5 := blk_cell (i := 5) F2.out rfl
        go_wp2_with fail
        clear g0 g1 g2 g3 g4 g5
        refine (lives15_any _).mono ?_
        rintro e w9 ⟨rfl, hb9⟩
        have HB9 := Kp.mk (HE2.out.trans (hb9.mono HE2.out.size))
        clear hb9
        go_wp2_with fail
        go_ret
        exact ⟨rfl, HB9.out⟩
      · have t2 : (staE x == 0) = false := by rw [beq_eq_false_iff_ne]; exact hst
        clear hst
        go_wp2_with fail
        refine (request_any x _ hx2).mono ?_
        rintro e v1 ⟨rfl, hb1⟩
        have K1 := Kp.mk (heap_alloc_new v1 (.cells #[.string (reqM x), .string (reqT x), .int .i64 (reqN x), .int .i64 0, .string ⟨#[]⟩, .slice none 0 0] 24))
        have HB1a := Kp.mk (HW.out.trans (hb1.mono HW.out.size))
        have HB1 := Kp.mk (HB1a.out.alloc HB1a.out.size (.cells #[.string (reqM x), .string (reqT x), .int .i64 (reqN x), .int .i64 0, .string ⟨#[]⟩, .slice none 0 0] 24))
        clear hb1
        rw [HQE.out]
        go_wp2_with fail
        refine (line15_any (reqM x) (reqT x) (reqN x) 0 ⟨#[]⟩ none 0 0 _ (by omega) (by omega) (by decide) (by omega) (by omega)).mono ?_
        rintro e u1 ⟨rfl, hc1⟩
        have J1 := Kp.mk ((hc1.block v1.heap.size (blk_lt K1.out)).trans K1.out)
        have HC1 := Kp.mk (HB1.out.trans (hc1.mono HB1.out.size))
        clear hc1
        go_wp2_with fail
        refine (request_any (lineH (reqM x) (reqT x) (reqN x) 0 ⟨#[]⟩) _ HQBsz.out).mono ?_
        rintro e r1 ⟨rfl, hd1⟩
        rw [HQB.out.1, HQB.out.2.1, HQB.out.2.2.1, HQB.out.2.2.2]
        have I1 := Kp.mk (blk_alloc (o2 := .cells #[.string (reqM x), .string (reqT x), .int .i64 (reqN x), .int .i64 0, .string ⟨#[]⟩, .slice none 0 0] 24) ((hd1.block v1.heap.size (blk_lt J1.out)).trans J1.out))
        have HD1a := Kp.mk (HC1.out.trans (hd1.mono HC1.out.size))
        have HD1 := Kp.mk (HD1a.out.alloc HD1a.out.size (.cells #[.string (reqM x), .string (reqT x), .int .i64 (reqN x), .int .i64 0, .string ⟨#[]⟩, .slice none 0 0] 24))
        clear hd1
        have g0 := blk_cell (i := 0) I1.out rfl
        have g1 := blk_cell (i := 1) I1.out rfl
        have g2 := blk_cell (i := 2) I1.out rfl
        have g3 := blk_cell (i := 3) I1.out rfl
        have g4 := blk_cell (i := 4) I1.out rfl
        have g5 := blk_cell (i := 5) I1.out rfl
        go_wp2_with fail
        refine (same15_any _ _ _ _ _ _ _ _ _ _ _ _).mono ?_
        rintro e s1 ⟨rfl, he1⟩
        have F1 := Kp.mk ((he1.block v1.heap.size (blk_lt I1.out)).trans I1.out)
        have HE1 := Kp.mk (HD1.out.trans (he1.mono HD1.out.size))
        clear he1 g0 g1 g2 g3 g4 g5
        have g0 := blk_cell (i := 0) F1.out rfl
        have g1 := blk_cell (i := 1) F1.out rfl
        have g2 := blk_cell (i := 2) F1.out rfl
        have g3 := blk_cell (i := 3) F1.out rfl
        have g4 := blk_cell (i := 4) F1.out rfl
        have g5 := blk_cell (i := 5) F1.out rfl
        go_wp2_with fail
        clear g0 g1 g2 g3 g4 g5
        refine (status_any x _ hx2).mono ?_
        rintro e v2 ⟨rfl, hb2⟩
        have K2 := Kp.mk (heap_alloc_new v2 (.cells #[.string ⟨#[]⟩, .string ⟨#[]⟩, .int .i64 (staN x), .int .i64 (staS x), .string (staR x), .slice none 0 0] 24))
        have HB2a := Kp.mk (HE1.out.trans (hb2.mono HE1.out.size))
        have HB2 := Kp.mk (HB2a.out.alloc HB2a.out.size (.cells #[.string ⟨#[]⟩, .string ⟨#[]⟩, .int .i64 (staN x), .int .i64 (staS x), .string (staR x), .slice none 0 0] 24))
        clear hb2
        go_wp2_with fail
        refine (lives15_any _).mono ?_
        rintro e w9 ⟨rfl, hb9⟩
        have HB9 := Kp.mk (HB2.out.trans (hb9.mono HB2.out.size))
        clear hb9
        go_wp2_with fail
        go_ret
        exact ⟨rfl, HB9.out⟩
    · have t1 : (reqE x == 0) = false := by rw [beq_eq_false_iff_ne]; exact hq
      clear hq
      by_cases hst : staE x = 0
      · have HSE := Kp.mk hst
        have HSB := Kp.mk (show staN (lineH ⟨#[]⟩ ⟨#[]⟩ (staN x) (staS x) (staR x)) = staN x ∧ staS (lineH ⟨#[]⟩ ⟨#[]⟩ (staN x) (staS x) (staR x)) = staS x ∧ staR (lineH ⟨#[]⟩ ⟨#[]⟩ (staN x) (staS x) (staR x)) = staR x ∧ staE (lineH ⟨#[]⟩ ⟨#[]⟩ (staN x) (staS x) (staR x)) = 0 from ⟨(sta_back hst).2.2.1, (sta_back hst).2.2.2.1, (sta_back hst).2.2.2.2, (sta_back hst).2.1⟩)
        have HSBsz := Kp.mk (lineH_size ⟨#[]⟩ ⟨#[]⟩ (staN x) (staS x) (staR x) (by decide) (by decide) (by omega))
        have y3 : ¬ staS x < 100 := by have := (sta_back hst).1; omega
        have y4 := sta_le x
        clear hst
        go_wp2_with fail
        refine (request_any x _ hx2).mono ?_
        rintro e v1 ⟨rfl, hb1⟩
        have K1 := Kp.mk (heap_alloc_new v1 (.cells #[.string (reqM x), .string (reqT x), .int .i64 (reqN x), .int .i64 0, .string ⟨#[]⟩, .slice none 0 0] 24))
        have HB1a := Kp.mk (HW.out.trans (hb1.mono HW.out.size))
        have HB1 := Kp.mk (HB1a.out.alloc HB1a.out.size (.cells #[.string (reqM x), .string (reqT x), .int .i64 (reqN x), .int .i64 0, .string ⟨#[]⟩, .slice none 0 0] 24))
        clear hb1
        go_wp2_with fail
        refine (status_any x _ hx2).mono ?_
        rintro e v2 ⟨rfl, hb2⟩
        have K2 := Kp.mk (heap_alloc_new v2 (.cells #[.string ⟨#[]⟩, .string ⟨#[]⟩, .int .i64 (staN x), .int .i64 (staS x), .string (staR x), .slice none 0 0] 24))
        have HB2a := Kp.mk (HB1.out.trans (hb2.mono HB1.out.size))
        have HB2 := Kp.mk (HB2a.out.alloc HB2a.out.size (.cells #[.string ⟨#[]⟩, .string ⟨#[]⟩, .int .i64 (staN x), .int .i64 (staS x), .string (staR x), .slice none 0 0] 24))
        clear hb2
        rw [HSE.out]
        go_wp2_with fail
        refine (line15_any ⟨#[]⟩ ⟨#[]⟩ (staN x) (staS x) (staR x) none 0 0 _ (by decide) (by decide) (by omega) (by omega) (by omega)).mono ?_
        rintro e u2 ⟨rfl, hc2⟩
        have J2 := Kp.mk ((hc2.block v2.heap.size (blk_lt K2.out)).trans K2.out)
        have HC2 := Kp.mk (HB2.out.trans (hc2.mono HB2.out.size))
        clear hc2
        go_wp2_with fail
        refine (status_any (lineH ⟨#[]⟩ ⟨#[]⟩ (staN x) (staS x) (staR x)) _ HSBsz.out).mono ?_
        rintro e r2 ⟨rfl, hd2⟩
        rw [HSB.out.1, HSB.out.2.1, HSB.out.2.2.1, HSB.out.2.2.2]
        have I2 := Kp.mk (blk_alloc (o2 := .cells #[.string ⟨#[]⟩, .string ⟨#[]⟩, .int .i64 (staN x), .int .i64 (staS x), .string (staR x), .slice none 0 0] 24) ((hd2.block v2.heap.size (blk_lt J2.out)).trans J2.out))
        have HD2a := Kp.mk (HC2.out.trans (hd2.mono HC2.out.size))
        have HD2 := Kp.mk (HD2a.out.alloc HD2a.out.size (.cells #[.string ⟨#[]⟩, .string ⟨#[]⟩, .int .i64 (staN x), .int .i64 (staS x), .string (staR x), .slice none 0 0] 24))
        clear hd2
        have g0 := blk_cell (i := 0) I2.out rfl
        have g1 := blk_cell (i := 1) I2.out rfl
        have g2 := blk_cell (i := 2) I2.out rfl
        have g3 := blk_cell (i := 3) I2.out rfl
        have g4 := blk_cell (i := 4) I2.out rfl
        have g5 := blk_cell (i := 5) I2.out rfl
        go_wp2_with fail
        refine (same15_any _ _ _ _ _ _ _ _ _ _ _ _).mono ?_
        rintro e s2 ⟨rfl, he2⟩
        have F2 := Kp.mk ((he2.block v2.heap.size (blk_lt I2.out)).trans I2.out)
        have HE2 := Kp.mk (HD2.out.trans (he2.mono HD2.out.size))
        clear he2 g0 g1 g2 g3 g4 g5
        have g0 := blk_cell (i := 0) F2.out rfl
        have g1 := blk_cell (i := 1) F2.out rfl
        have g2 := blk_cell (i := 2) F2.out rfl
        have g3 := blk_cell (i := 3) F2.out rfl
        have g4 := blk_cell (i := 4) F2.out rfl
        have g5 := blk_cell (i := 5) F2.out rfl
        go_wp2_with fail
        clear g0 g1 g2 g3 g4 g5
        refine (lives15_any _).mono ?_
        rintro e w9 ⟨rfl, hb9⟩
        have HB9 := Kp.mk (HE2.out.trans (hb9.mono HE2.out.size))
        clear hb9
        go_wp2_with fail
        go_ret
        exact ⟨rfl, HB9.out⟩
      · have t2 : (staE x == 0) = false := by rw [beq_eq_false_iff_ne]; exact hst
        clear hst
        go_wp2_with fail
        refine (request_any x _ hx2).mono ?_
        rintro e v1 ⟨rfl, hb1⟩
        have K1 := Kp.mk (heap_alloc_new v1 (.cells #[.string (reqM x), .string (reqT x), .int .i64 (reqN x), .int .i64 0, .string ⟨#[]⟩, .slice none 0 0] 24))
        have HB1a := Kp.mk (HW.out.trans (hb1.mono HW.out.size))
        have HB1 := Kp.mk (HB1a.out.alloc HB1a.out.size (.cells #[.string (reqM x), .string (reqT x), .int .i64 (reqN x), .int .i64 0, .string ⟨#[]⟩, .slice none 0 0] 24))
        clear hb1
        go_wp2_with fail
        refine (status_any x _ hx2).mono ?_
        rintro e v2 ⟨rfl, hb2⟩
        have K2 := Kp.mk (heap_alloc_new v2 (.cells #[.string ⟨#[]⟩, .string ⟨#[]⟩, .int .i64 (staN x), .int .i64 (staS x), .string (staR x), .slice none 0 0] 24))
        have HB2a := Kp.mk (HB1.out.trans (hb2.mono HB1.out.size))
        have HB2 := Kp.mk (HB2a.out.alloc HB2a.out.size (.cells #[.string ⟨#[]⟩, .string ⟨#[]⟩, .int .i64 (staN x), .int .i64 (staS x), .string (staR x), .slice none 0 0] 24))
        clear hb2
        go_wp2_with fail
        refine (lives15_any _).mono ?_
        rintro e w9 ⟨rfl, hb9⟩
        have HB9 := Kp.mk (HB2.out.trans (hb9.mono HB2.out.size))
        clear hb9
        go_wp2_with fail
        go_ret
        exact ⟨rfl, HB9.out⟩
theorem sback_arg (v0 : Value) (w : World) (h0 : Arg Try.prog w 9 v0) :
    Calls Try.prog 6 #[v0] w fun e w' => e = .returned (.bool true) ∧ Below w.heap.size w w' := by
  obtain ⟨s, rfl, hs⟩ := h0.str Try.underlying9
  exact sback_walk s w hs
end Go.Proofs.Ytpgeheblmpjndaa
