/- Dates of fields (layer 6): HttpdateBack (bin/mkdtl.py). -/
import Derived.Test.YtgogoncpnfojkaaDtk
namespace Go.Proofs.Ytgogoncpnfojkaa
open Go.RowKit
set_option linter.unusedVariables false
set_option linter.unusedSimpArgs false

set_option maxRecDepth 100000 in
set_option maxHeartbeats 4000000 in
theorem hback_of (n now Y m d H M S X m2 d2 u2 i2 s2 : Int) (T1 T2 T3 P : ByteArray) (w : World) (hr : (1 ≤ X ∧ X ≤ 9999) ∧ 1 ≤ Y ∧ Y ≤ 9999)
    (hD1 : ∀ w, Calls Try.prog 36 #[.int .i64 n] w fun e w' => e = .returned (.tuple #[.agg #[.int .i64 Y, .int .i64 m, .int .i64 d, .int .i64 H, .int .i64 M, .int .i64 S], .bool true]) ∧ Below w.heap.size w w')
    (hD2 : ∀ w, Calls Try.prog 36 #[.int .i64 now] w fun e w' => e = .returned (.tuple #[.agg #[.int .i64 X, .int .i64 m2, .int .i64 d2, .int .i64 u2, .int .i64 i2, .int .i64 s2], .bool true]) ∧ Below w.heap.size w w')
    (hW1 : ∀ w, Calls Try.prog 37 #[.agg #[.int .i64 Y, .int .i64 m, .int .i64 d, .int .i64 H, .int .i64 M, .int .i64 S], .int .i64 1] w fun e w' => e = .returned (.string T1) ∧ Below w.heap.size w w')
    (hP1 : ∀ w, Calls Try.prog 29 #[.string T1, .int .i64 now] w fun e w' => e = .returned (.tuple #[.int .i64 n, .int .i64 1, .int .i64 0]) ∧ Below w.heap.size w w')
    (hF1 : ∀ w, Calls Try.prog 31 #[.string T1, .int .i64 now] w fun e w' => e = .returned (.string P) ∧ Below w.heap.size w w')
    (hW2 : ∀ w, Calls Try.prog 37 #[.agg #[.int .i64 Y, .int .i64 m, .int .i64 d, .int .i64 H, .int .i64 M, .int .i64 S], .int .i64 2] w fun e w' => e = .returned (.string T2) ∧ Below w.heap.size w w')
    (hP2 : X - 50 < Y → Y ≤ X + 50 → ∀ w, Calls Try.prog 29 #[.string T2, .int .i64 now] w fun e w' => e = .returned (.tuple #[.int .i64 n, .int .i64 2, .int .i64 0]) ∧ Below w.heap.size w w')
    (hF2 : X - 50 < Y → Y ≤ X + 50 → ∀ w, Calls Try.prog 31 #[.string T2, .int .i64 now] w fun e w' => e = .returned (.string P) ∧ Below w.heap.size w w')
    (hW3 : ∀ w, Calls Try.prog 37 #[.agg #[.int .i64 Y, .int .i64 m, .int .i64 d, .int .i64 H, .int .i64 M, .int .i64 S], .int .i64 3] w fun e w' => e = .returned (.string T3) ∧ Below w.heap.size w w')
    (hP3 : ∀ w, Calls Try.prog 29 #[.string T3, .int .i64 now] w fun e w' => e = .returned (.tuple #[.int .i64 n, .int .i64 3, .int .i64 0]) ∧ Below w.heap.size w w')
    (hF3 : ∀ w, Calls Try.prog 31 #[.string T3, .int .i64 now] w fun e w' => e = .returned (.string P) ∧ Below w.heap.size w w')
    (hFP : ∀ w, Calls Try.prog 31 #[.string P, .int .i64 now] w fun e w' => e = .returned (.string P) ∧ Below w.heap.size w w')
    (hPr : ∀ w, Calls Try.prog 34 #[.int .i64 n] w fun e w' => e = .returned (.string P) ∧ Below w.heap.size w w')
    : Calls Try.prog 7 #[.int .i64 n, .int .i64 now] w fun e w' => e = .returned (.bool true) ∧ Below w.heap.size w w' := by
  have KD1 := Kp.mk hD1
  have KD2 := Kp.mk hD2
  have KW1 := Kp.mk hW1
  have KP1 := Kp.mk hP1
  have KF1 := Kp.mk hF1
  have KW2 := Kp.mk hW2
  have KP2 := Kp.mk hP2
  have KF2 := Kp.mk hF2
  have KW3 := Kp.mk hW3
  have KP3 := Kp.mk hP3
  have KF3 := Kp.mk hF3
  have KFP := Kp.mk hFP
  have KPr := Kp.mk hPr
  clear hD1 hD2 hW1 hP1 hF1 hW2 hP2 hF2 hW3 hP3 hF3 hFP hPr
  obtain ⟨⟨hx0, hx1⟩, hy0, hy1⟩ := hr
  have tt : (P.toList == P.toList) = true := by simp
  go_enter Try.func7, Try.ntmps7
  go_wp2_with fail
  refine (KD1.out _).mono ?_
  rintro e w1 ⟨rfl, hb⟩
  have HB := Kp.mk (hb.alloc hb.size (.cells #[.int .i64 Y, .int .i64 m, .int .i64 d, .int .i64 H, .int .i64 M, .int .i64 S] 60))
  have H1 := Kp.mk (heap_alloc_new w1 (.cells #[.int .i64 Y, .int .i64 m, .int .i64 d, .int .i64 H, .int .i64 M, .int .i64 S] 60))
  clear hb
  go_wp2_with fail
  refine (KD2.out _).mono ?_
  rintro e w2 ⟨rfl, hb⟩
  replace H1 := Kp.mk ((hb.block _ (blk_lt H1.out)).trans H1.out)
  replace HB := Kp.mk (HB.out.trans (hb.mono HB.out.size))
  clear hb
  have H2 := Kp.mk (heap_alloc_new w2 (.cells #[.int .i64 X, .int .i64 m2, .int .i64 d2, .int .i64 u2, .int .i64 i2, .int .i64 s2] 60))
  replace H1 := Kp.mk (blk_alloc (o2 := .cells #[.int .i64 X, .int .i64 m2, .int .i64 d2, .int .i64 u2, .int .i64 i2, .int .i64 s2] 60) H1.out)
  replace HB := Kp.mk (HB.out.alloc HB.out.size (.cells #[.int .i64 X, .int .i64 m2, .int .i64 d2, .int .i64 u2, .int .i64 i2, .int .i64 s2] 60))
  go_wp2_with fail
  go_loopw [9] (fun i wr => ∃ k : Int, (k = 1 ∨ k = 2 ∨ k = 3 ∨ k = 4) ∧ i = .int .i64 k ∧ wr.heap[w1.heap.size]? = some (.cells #[.int .i64 Y, .int .i64 m, .int .i64 d, .int .i64 H, .int .i64 M, .int .i64 S] 60 (0, 0)) ∧ wr.heap[w2.heap.size]? = some (.cells #[.int .i64 X, .int .i64 m2, .int .i64 d2, .int .i64 u2, .int .i64 i2, .int .i64 s2] 60 (0, 0)) ∧ Below w.heap.size w wr) (fun i _ => 4 - (intOf i).toNat)
  case atStart => exact ⟨1, .inl rfl, rfl, H1.out, H2.out, HB.out⟩
  case round =>
    obtain ⟨k, hk, rfl, h1, h2, hbw⟩ := hrel
    clear H1 H2 HB
    have H1 := Kp.mk h1
    have H2 := Kp.mk h2
    have HB := Kp.mk hbw
    clear h1 h2 hbw
    rcases hk with rfl | rfl | rfl | rfl
    · have c0 := blk_cell (i := 0) H1.out rfl
      have c1 := blk_cell (i := 1) H1.out rfl
      have c2 := blk_cell (i := 2) H1.out rfl
      have c3 := blk_cell (i := 3) H1.out rfl
      have c4 := blk_cell (i := 4) H1.out rfl
      have c5 := blk_cell (i := 5) H1.out rfl
      go_wp2_with fail
      refine (KW1.out _).mono ?_
      rintro e v1 ⟨rfl, hb⟩
      replace H1 := Kp.mk ((hb.block _ (blk_lt H1.out)).trans H1.out)
      replace H2 := Kp.mk ((hb.block _ (blk_lt H2.out)).trans H2.out)
      replace HB := Kp.mk (HB.out.trans (hb.mono HB.out.size))
      clear hb
      clear c0 c1 c2 c3 c4 c5
      go_wp2_with fail
      refine (KP1.out _).mono ?_
      rintro e v2 ⟨rfl, hb⟩
      replace H1 := Kp.mk ((hb.block _ (blk_lt H1.out)).trans H1.out)
      replace H2 := Kp.mk ((hb.block _ (blk_lt H2.out)).trans H2.out)
      replace HB := Kp.mk (HB.out.trans (hb.mono HB.out.size))
      clear hb
      go_wp2_with fail
      refine (KF1.out _).mono ?_
      rintro e v3 ⟨rfl, hb⟩
      replace H1 := Kp.mk ((hb.block _ (blk_lt H1.out)).trans H1.out)
      replace H2 := Kp.mk ((hb.block _ (blk_lt H2.out)).trans H2.out)
      replace HB := Kp.mk (HB.out.trans (hb.mono HB.out.size))
      clear hb
      go_wp2_with fail
      refine (KPr.out _).mono ?_
      rintro e v4 ⟨rfl, hb⟩
      replace H1 := Kp.mk ((hb.block _ (blk_lt H1.out)).trans H1.out)
      replace H2 := Kp.mk ((hb.block _ (blk_lt H2.out)).trans H2.out)
      replace HB := Kp.mk (HB.out.trans (hb.mono HB.out.size))
      clear hb
      go_wp2_with fail
      refine (KFP.out _).mono ?_
      rintro e v5 ⟨rfl, hb⟩
      replace H1 := Kp.mk ((hb.block _ (blk_lt H1.out)).trans H1.out)
      replace H2 := Kp.mk ((hb.block _ (blk_lt H2.out)).trans H2.out)
      replace HB := Kp.mk (HB.out.trans (hb.mono HB.out.size))
      clear hb
      go_wp2_with fail
      go_roundw
      case rel => exact ⟨2, by omega, by first | rfl | go_num, H1.out, H2.out, HB.out⟩
      case measure => simp [intOf]
    · have c0 := blk_cell (i := 0) H1.out rfl
      have c1 := blk_cell (i := 1) H1.out rfl
      have c2 := blk_cell (i := 2) H1.out rfl
      have c3 := blk_cell (i := 3) H1.out rfl
      have c4 := blk_cell (i := 4) H1.out rfl
      have c5 := blk_cell (i := 5) H1.out rfl
      go_wp2_with fail
      refine (KW2.out _).mono ?_
      rintro e v1 ⟨rfl, hb⟩
      replace H1 := Kp.mk ((hb.block _ (blk_lt H1.out)).trans H1.out)
      replace H2 := Kp.mk ((hb.block _ (blk_lt H2.out)).trans H2.out)
      replace HB := Kp.mk (HB.out.trans (hb.mono HB.out.size))
      clear hb
      clear c0 c1 c2 c3 c4 c5
      have c0 := blk_cell (i := 0) H1.out rfl
      have x0 := blk_cell (i := 0) H2.out rfl
      by_cases hw : X - 50 < Y ∧ Y ≤ X + 50
      · have KP := Kp.mk (KP2.out hw.1 hw.2)
        have KF := Kp.mk (KF2.out hw.1 hw.2)
        have q1 : decide (Y ≤ X - 50) = false := decide_eq_false (by omega)
        have q2 : decide (Y > X + 50) = false := decide_eq_false (by omega)
        have q3 : X - 50 < Y := hw.1
        have q4 : Y ≤ X + 50 := hw.2
        clear hw
        go_wp2_with fail
        clear c0 x0
        refine (KP.out _).mono ?_
        rintro e v2 ⟨rfl, hb⟩
        replace H1 := Kp.mk ((hb.block _ (blk_lt H1.out)).trans H1.out)
        replace H2 := Kp.mk ((hb.block _ (blk_lt H2.out)).trans H2.out)
        replace HB := Kp.mk (HB.out.trans (hb.mono HB.out.size))
        clear hb
        go_wp2_with fail
        refine (KF.out _).mono ?_
        rintro e v3 ⟨rfl, hb⟩
        replace H1 := Kp.mk ((hb.block _ (blk_lt H1.out)).trans H1.out)
        replace H2 := Kp.mk ((hb.block _ (blk_lt H2.out)).trans H2.out)
        replace HB := Kp.mk (HB.out.trans (hb.mono HB.out.size))
        clear hb
        go_wp2_with fail
        refine (KPr.out _).mono ?_
        rintro e v4 ⟨rfl, hb⟩
        replace H1 := Kp.mk ((hb.block _ (blk_lt H1.out)).trans H1.out)
        replace H2 := Kp.mk ((hb.block _ (blk_lt H2.out)).trans H2.out)
        replace HB := Kp.mk (HB.out.trans (hb.mono HB.out.size))
        clear hb
        go_wp2_with fail
        refine (KFP.out _).mono ?_
        rintro e v5 ⟨rfl, hb⟩
        replace H1 := Kp.mk ((hb.block _ (blk_lt H1.out)).trans H1.out)
        replace H2 := Kp.mk ((hb.block _ (blk_lt H2.out)).trans H2.out)
        replace HB := Kp.mk (HB.out.trans (hb.mono HB.out.size))
        clear hb
        go_wp2_with fail
        go_roundw
        case rel => exact ⟨3, by omega, by first | rfl | go_num, H1.out, H2.out, HB.out⟩
        case measure => simp [intOf]
      · by_cases h : Y ≤ X - 50
        · have q1 : decide (Y ≤ X - 50) = true := decide_eq_true h
          clear hw
          go_wp2_with fail
          clear c0 x0
          go_roundw
          case rel => exact ⟨3, by omega, by first | rfl | go_num, H1.out, H2.out, HB.out⟩
          case measure => simp [intOf]
        · have q1 : decide (Y ≤ X - 50) = false := decide_eq_false h
          have q2 : decide (Y > X + 50) = true := decide_eq_true (by omega)
          have q3 : X - 50 < Y := by omega
          have q4 : X + 50 < Y := by omega
          clear hw h
          go_wp2_with fail
          clear c0 x0
          go_roundw
          case rel => exact ⟨3, by omega, by first | rfl | go_num, H1.out, H2.out, HB.out⟩
          case measure => simp [intOf]
    · have c0 := blk_cell (i := 0) H1.out rfl
      have c1 := blk_cell (i := 1) H1.out rfl
      have c2 := blk_cell (i := 2) H1.out rfl
      have c3 := blk_cell (i := 3) H1.out rfl
      have c4 := blk_cell (i := 4) H1.out rfl
      have c5 := blk_cell (i := 5) H1.out rfl
      go_wp2_with fail
      refine (KW3.out _).mono ?_
      rintro e v1 ⟨rfl, hb⟩
      replace H1 := Kp.mk ((hb.block _ (blk_lt H1.out)).trans H1.out)
      replace H2 := Kp.mk ((hb.block _ (blk_lt H2.out)).trans H2.out)
      replace HB := Kp.mk (HB.out.trans (hb.mono HB.out.size))
      clear hb
      clear c0 c1 c2 c3 c4 c5
      go_wp2_with fail
      refine (KP3.out _).mono ?_
      rintro e v2 ⟨rfl, hb⟩
      replace H1 := Kp.mk ((hb.block _ (blk_lt H1.out)).trans H1.out)
      replace H2 := Kp.mk ((hb.block _ (blk_lt H2.out)).trans H2.out)
      replace HB := Kp.mk (HB.out.trans (hb.mono HB.out.size))
      clear hb
      go_wp2_with fail
      refine (KF3.out _).mono ?_
      rintro e v3 ⟨rfl, hb⟩
      replace H1 := Kp.mk ((hb.block _ (blk_lt H1.out)).trans H1.out)
      replace H2 := Kp.mk ((hb.block _ (blk_lt H2.out)).trans H2.out)
      replace HB := Kp.mk (HB.out.trans (hb.mono HB.out.size))
      clear hb
      go_wp2_with fail
      refine (KPr.out _).mono ?_
      rintro e v4 ⟨rfl, hb⟩
      replace H1 := Kp.mk ((hb.block _ (blk_lt H1.out)).trans H1.out)
      replace H2 := Kp.mk ((hb.block _ (blk_lt H2.out)).trans H2.out)
      replace HB := Kp.mk (HB.out.trans (hb.mono HB.out.size))
      clear hb
      go_wp2_with fail
      refine (KFP.out _).mono ?_
      rintro e v5 ⟨rfl, hb⟩
      replace H1 := Kp.mk ((hb.block _ (blk_lt H1.out)).trans H1.out)
      replace H2 := Kp.mk ((hb.block _ (blk_lt H2.out)).trans H2.out)
      replace HB := Kp.mk (HB.out.trans (hb.mono HB.out.size))
      clear hb
      go_wp2_with fail
      go_roundw
      case rel => exact ⟨4, by omega, by first | rfl | go_num, H1.out, H2.out, HB.out⟩
      case measure => simp [intOf]
    · go_wp2_with fail
      refine (lives06_any _).mono ?_
      rintro e v1 ⟨rfl, hb⟩
      go_wp2_with fail
      go_ret
      exact ⟨rfl, HB.out.trans (hb.mono HB.out.size)⟩
theorem rdate_of (n : Int) (h0 : -9223372036854775808 ≤ n) (h1 : n ≤ 9223372036854775807) (hpl : placeB (n / 86400) = true) : ∀ w, Calls Try.prog 36 #[.int .i64 n] w fun e w' => e = .returned (.tuple #[.agg #[.int .i64 (dyY n), .int .i64 (dyM n), .int .i64 (dyD n), .int .i64 (dH n), .int .i64 (dM n), .int .i64 (dS n)], .bool true]) ∧ Below w.heap.size w w' :=
  fun w => by have := ref_date_any n w h0 h1; rw [hpl] at this; exact this
set_option maxRecDepth 100000 in
set_option maxHeartbeats 2000000 in
theorem hback_bad (n now : Int) (w : World) (n0 : -9223372036854775808 ≤ n) (n1 : n ≤ 9223372036854775807) (h0 : -9223372036854775808 ≤ now) (h1 : now ≤ 9223372036854775807) (hb : placeB (n / 86400) = false ∨ placeB (now / 86400) = false) :
    Calls Try.prog 7 #[.int .i64 n, .int .i64 now] w fun e w' => e = .returned (.bool true) ∧ Below w.heap.size w w' := by
  have K1 := Kp.mk (fun w => ref_date_any n w n0 n1)
  have K2 := Kp.mk (fun w => ref_date_any now w h0 h1)
  generalize dayOf (n / 86400) = D1 at *
  generalize dayOf (now / 86400) = D2 at *
  generalize dH n = a1 at *
  generalize dM n = a2 at *
  generalize dS n = a3 at *
  generalize dH now = a4 at *
  generalize dM now = a5 at *
  generalize dS now = a6 at *
  generalize placeB (n / 86400) = B1 at *
  generalize placeB (now / 86400) = B2 at *
  have hh : B1 = false ∨ (B1 = true ∧ B2 = false) := by cases B1 <;> simp_all
  clear hb
  rcases hh with rfl | ⟨rfl, rfl⟩
  all_goals
    go_enter Try.func7, Try.ntmps7
    go_wp2_with fail
    refine (K1.out _).mono ?_
    rintro e w1 ⟨rfl, hb⟩
    have HB := Kp.mk (hb.alloc hb.size (.cells #[.int .i64 D1.1, .int .i64 D1.2.1, .int .i64 D1.2.2, .int .i64 a1, .int .i64 a2, .int .i64 a3] 60))
    clear hb
    go_wp2_with fail
    refine (K2.out _).mono ?_
    rintro e w2 ⟨rfl, hb⟩
    replace HB := Kp.mk (HB.out.trans (hb.mono HB.out.size))
    clear hb
    replace HB := Kp.mk (HB.out.alloc HB.out.size (.cells #[.int .i64 D2.1, .int .i64 D2.2.1, .int .i64 D2.2.2, .int .i64 a4, .int .i64 a5, .int .i64 a6] 60))
    go_wp2_with fail
    refine (lives06_any _).mono ?_
    rintro e v1 ⟨rfl, hb⟩
    go_wp2_with fail
    go_ret
    exact ⟨rfl, HB.out.trans (hb.mono HB.out.size)⟩
theorem len_le (b : ByteArray) (L : List UInt8) (h : b = ofL L) : L.length = b.size := by rw [h, ofL_size]
theorem parse_of (now : Int) (L : List UInt8) (p : Int × Int × Int) (hL : L.length ≤ 100000) (h0 : -9223372036854775808 ≤ now) (h1 : now ≤ 9223372036854775807) (hp : parP now L = p) : ∀ w, Calls Try.prog 29 #[.string (ofL L), .int .i64 now] w fun e w' => e = .returned (.tuple #[.int .i64 p.1, .int .i64 p.2.1, .int .i64 p.2.2]) ∧ Below w.heap.size w w' :=
  fun w => by have := hdparse_any now L w hL h0 h1; rw [hp] at this; exact this
theorem fix_of (now : Int) (L : List UInt8) (P : ByteArray) (hL : L.length ≤ 100000) (h0 : -9223372036854775808 ≤ now) (h1 : now ≤ 9223372036854775807) (hp : fixF now L = P) : ∀ w, Calls Try.prog 31 #[.string (ofL L), .int .i64 now] w fun e w' => e = .returned (.string P) ∧ Below w.heap.size w w' :=
  fun w => by have := hdfix_any now L w hL h0 h1; rw [hp] at this; exact this
theorem wdS_le (k : Nat) (hk : k < 7) : ((wdS k).data.toList.take 9).length ≤ 9 := by rw [List.length_take]; omega
theorem moL_le (k : Nat) : (moS k).data.toList.length ≤ 9 := by have := moS_le k; rw [ba_size'] at this; omega
theorem len_prt (n : Int) : (pcAcc n 18).length ≤ 1000 := by
  have h := wd3_len _ (wkN_lt n)
  have h2 := moL_le (dyM n - 1).toNat
  have a := padL_len (dyD n) 2
  have b := padL_len (dyY n) 4
  have c := padL_len (dH n) 2
  have d := padL_len (dM n) 2
  have e := padL_len (dS n) 2
  simp only [pcAcc, pcL, List.length_append, List.length_cons, List.length_nil]
  omega
theorem len_eld (n : Int) : (elderN n).length ≤ 1000 := by
  have h := wdS_le _ (wkN_lt n)
  have h2 := moL_le (dyM n - 1).toNat
  have a := wdig_len 10 2 (dyD n).toNat
  have b := wdig_len 10 2 (dyY n % 100).toNat
  have c := wdig_len 10 2 (dH n).toNat
  have d := wdig_len 10 2 (dM n).toNat
  have e := wdig_len 10 2 (dS n).toNat
  simp only [elderN, elder2, List.length_append, List.length_cons, List.length_nil]
  omega
theorem len_pla (n : Int) : (plainN n).length ≤ 1000 := by
  have h := wd3_len _ (wkN_lt n)
  have h2 := moL_le (dyM n - 1).toNat
  have a : (dayL (dyD n).toNat).length ≤ 21 := by have := wdig_len 10 1 (dyD n).toNat; unfold dayL; split <;> (try simp only [List.length_cons]) <;> omega
  have b := wdig_len 10 4 (dyY n).toNat
  have c := wdig_len 10 2 (dH n).toNat
  have d := wdig_len 10 2 (dM n).toNat
  have e := wdig_len 10 2 (dS n).toNat
  simp only [plainN, plain3, List.length_append, List.length_cons, List.length_nil]
  omega
theorem hback_walk (n now : Int) (w : World) (wn : (Lit.int .i64 n).wf = true) (ww : (Lit.int .i64 now).wf = true) :
    Calls Try.prog 7 #[.int .i64 n, .int .i64 now] w fun e w' => e = .returned (.bool true) ∧ Below w.heap.size w w' := by
  obtain ⟨n0, n1⟩ := bounds_i64 wn
  obtain ⟨h0, h1⟩ := bounds_i64 ww
  cases hp : placeB (n / 86400)
  · exact hback_bad n now w n0 n1 h0 h1 (.inl hp)
  cases hq : placeB (now / 86400)
  · exact hback_bad n now w n0 n1 h0 h1 (.inr hq)
  obtain ⟨y0, y1, m0, m1, d0, d1⟩ := date_ranges n hp
  obtain ⟨x0, x1, -⟩ := date_ranges now hq
  obtain ⟨a0, a1, b0, b1, c0, c1⟩ := time_ranges n
  have hmn : dyM n - 1 = ((dyM n - 1).toNat : Int) := (Int.toNat_of_nonneg (by omega)).symm
  have hrb : (-1000 ≤ dyD n ∧ dyD n ≤ 100000) ∧ (-1000 ≤ dyY n ∧ dyY n ≤ 100000) ∧ (-1000 ≤ dH n ∧ dH n ≤ 100000) ∧ (-1000 ≤ dM n ∧ dM n ≤ 100000) ∧ (-1000 ≤ dS n ∧ dS n ≤ 100000) := by omega
  have e1 := fix_text n _ hmn
  have e2 := eld_text n _ hmn hp
  have e3 := pla_text n _ hmn hp
  have eP : prtB n = ofL (pcAcc n 18) := by unfold prtB; rw [hp]; rfl
  have hday := rday6_any n hp
  have W1 := fun w => rwrite1_of (dyY n) (dyM n) (dyD n) (dH n) (dM n) (dS n) (wkN n) _ (wkN_lt n) hmn (by omega) hrb hday w
  have W2 := fun w => rwrite2_of (dyY n) (dyM n) (dyD n) (dH n) (dM n) (dS n) (wkN n) _ (wkN_lt n) (by omega) hmn (by omega) hrb hday w
  have W3 := fun w => rwrite3_of (dyY n) (dyM n) (dyD n) (dH n) (dM n) (dS n) (wkN n) _ (wkN_lt n) (by omega) hmn (by omega) hrb hday w
  rw [e1] at W1
  rw [e2] at W2
  rw [e3] at W3
  have PR := fun w => hprint_any n w n0 n1
  rw [eP] at PR
  have l1 := len_prt n
  have l2 := len_eld n
  have l3 := len_pla n
  exact hback_of n now (dyY n) (dyM n) (dyD n) (dH n) (dM n) (dS n) (yrN now) (dyM now) (dyD now) (dH now) (dM now) (dS now) (ofL (pcAcc n 18)) (ofL (elderN n)) (ofL (plainN n)) (ofL (pcAcc n 18)) w ⟨⟨x0, x1⟩, y0, y1⟩
    (rdate_of n n0 n1 hp) (rdate_of now h0 h1 hq)
    W1 (parse_of now _ (n, 1, 0) (by omega) h0 h1 (par_again n now hp hq)) (fix_of now _ _ (by omega) h0 h1 ((fix_prt n now hp).trans eP))
    W2 (fun g1 g2 => parse_of now _ (n, 2, 0) (by omega) h0 h1 (par_elder n now hp hq g1 g2)) (fun g1 g2 => fix_of now _ _ (by omega) h0 h1 ((fix_elder n now hp hq g1 g2).trans eP))
    W3 (parse_of now _ (n, 3, 0) (by omega) h0 h1 (par_plain n now hp hq)) (fix_of now _ _ (by omega) h0 h1 ((fix_plain n now hp hq).trans eP))
    (fix_of now _ _ (by omega) h0 h1 ((fix_prt n now hp).trans eP)) PR
end Go.Proofs.Ytgogoncpnfojkaa
