/- The calendar (layer 5): the law CivilNext. -/
import Derived.Test.YtbflkgphkiilgaaCit
import Derived.Deep.DeepCutAuto
namespace Go.Proofs.Ytbflkgphkiilgaa
open Go.RowKit
set_option linter.unusedVariables false
set_option linter.unusedSimpArgs false

theorem date_back (n : Int) (h : placeB (n / 86400) = true) :
    secB (dayOf (n / 86400)).1 (dayOf (n / 86400)).2.1 (dayOf (n / 86400)).2.2 (n % 86400 / 3600) (n % 86400 / 60 % 60) (n % 60) = true ∧
    secI (dayOf (n / 86400)).1 (dayOf (n / 86400)).2.1 (dayOf (n / 86400)).2.2 (n % 86400 / 3600) (n % 86400 / 60 % 60) (n % 60) = n := by
  have hr : -719162 ≤ n / 86400 ∧ n / 86400 ≤ 2932896 := by simpa [placeB] using h
  obtain ⟨h1, h2⟩ := dayOf_spec hr.1 hr.2
  have hd : dayB (dayOf (n / 86400)).1 (dayOf (n / 86400)).2.1 (dayOf (n / 86400)).2.2 = true := (dayB_iff _ _ _).2 h1
  have ht : timeB (n % 86400 / 3600) (n % 86400 / 60 % 60) (n % 60) = true := by
    unfold timeB; simp only [decide_eq_true_eq]; omega
  have hs : secB (dayOf (n / 86400)).1 (dayOf (n / 86400)).2.1 (dayOf (n / 86400)).2.2 (n % 86400 / 3600) (n % 86400 / 60 % 60) (n % 60) = true := by
    unfold secB; rw [hd, ht]; rfl
  refine ⟨hs, ?_⟩
  unfold secI
  rw [if_pos hs, h2]
  omega

theorem next_at (n : Int) (h : placeB n = true) (h' : placeB (n + 1) = true) : Follows (dayOf n).1 (dayOf n).2.1 (dayOf n).2.2 (dayOf (n + 1)).1 (dayOf (n + 1)).2.1 (dayOf (n + 1)).2.2 := by
  have hr : -719162 ≤ n ∧ n ≤ 2932896 := by simpa [placeB] using h
  have hr' : -719162 ≤ n + 1 ∧ n + 1 ≤ 2932896 := by simpa [placeB] using h'
  obtain ⟨h1, h2⟩ := dayOf_spec hr.1 hr.2
  obtain ⟨y, m, d, g1, g2, g3⟩ := next_day h1 (by omega)
  obtain ⟨e1, e2, e3⟩ := dayOf_eq g1 (show placeI y m d = n + 1 by rw [g2, h2])
  rw [← e1, ← e2, ← e3]
  exact g3
theorem last_at (n : Int) (h : placeB n = true) (h' : placeB (n + 1) = false) : dayOf n = (9999, 12, 31) := by
  have hr : -719162 ≤ n ∧ n ≤ 2932896 := by simpa [placeB] using h
  have hr' : ¬ (-719162 ≤ n + 1 ∧ n + 1 ≤ 2932896) := by simpa [placeB] using h'
  have hn : n = 2932896 := by omega
  subst hn
  obtain ⟨e1, e2, e3⟩ := dayOf_eq (n := 2932896) (y := 9999) (m := 12) (d := 31) ⟨by decide, by decide, by decide, by decide, by decide, by decide⟩ (by decide)
  have : dayOf 2932896 = ((dayOf 2932896).1, (dayOf 2932896).2.1, (dayOf 2932896).2.2) := rfl
  rw [this, ← e1, ← e2, ← e3]

/-- The parts of the date of so many seconds; noughts where it has none. -/
def dH (n : Int) : Int := if placeB (n / 86400) then n % 86400 / 3600 else 0
def dM (n : Int) : Int := if placeB (n / 86400) then n % 86400 / 60 % 60 else 0
def dS (n : Int) : Int := if placeB (n / 86400) then n % 60 else 0
theorem dateR_eq (n : Int) : dateR n = .agg #[.int .i64 (dayOf (n / 86400)).1, .int .i64 (dayOf (n / 86400)).2.1, .int .i64 (dayOf (n / 86400)).2.2, .int .i64 (dH n), .int .i64 (dM n), .int .i64 (dS n)] := by
  unfold dateR dH dM dS
  cases h : placeB (n / 86400)
  · have hr : ¬ (-719162 ≤ n / 86400 ∧ n / 86400 ≤ 2932896) := by simpa [placeB] using h
    rw [dayOf_out hr]; rfl
  · simp only [if_true, dateV]
    rw [show n % 86400 % 60 = n % 60 from by omega]
theorem date_back2 (n : Int) (h : placeB (n / 86400) = true) :
    secB (dayOf (n / 86400)).1 (dayOf (n / 86400)).2.1 (dayOf (n / 86400)).2.2 (dH n) (dM n) (dS n) = true ∧ secI (dayOf (n / 86400)).1 (dayOf (n / 86400)).2.1 (dayOf (n / 86400)).2.2 (dH n) (dM n) (dS n) = n := by
  unfold dH dM dS
  rw [if_pos h, if_pos h, if_pos h]
  exact date_back n h
theorem date_any2 (n : Int) (w : World) (h0 : -9223372036854775808 ≤ n) (h1 : n ≤ 9223372036854775807) :
    Calls Try.prog 52 #[.int .i64 n] w fun e w' => e = .returned (.tuple #[.agg #[.int .i64 (dayOf (n / 86400)).1, .int .i64 (dayOf (n / 86400)).2.1, .int .i64 (dayOf (n / 86400)).2.2, .int .i64 (dH n), .int .i64 (dM n), .int .i64 (dS n)], .bool (placeB (n / 86400))]) ∧ Below w.heap.size w w' :=
  (date_any n w h0 h1).mono fun e w' h => by rw [← dateR_eq]; exact h

set_option maxRecDepth 100000 in
set_option maxHeartbeats 1600000 in
theorem cnext_walk (n s : Int) (w : World) (wn : (Lit.int .i64 n).wf = true) (wsec : (Lit.int .i64 s).wf = true) :
    Calls Try.prog 11 #[.int .i64 n, .int .i64 s] w fun e w' => e = .returned (.bool true) ∧ Below w.heap.size w w' := by
  obtain ⟨hn0, hn1⟩ := bounds_i64 wn
  obtain ⟨hs0, hs1⟩ := bounds_i64 wsec
  clear wn wsec
  have HBK := Lib.hid (date_back2 s)
  go_enter Try.func11, Try.ntmps11
  go_upto_if 27 with (go_at_call 52; refine (date_any2 _ _ hs0 hs1).mono ?_; rintro e w1 ⟨rfl, hb1⟩)
  generalize dayOf (s / 86400) = D at *
  generalize dH s = X4 at *
  generalize dM s = X5 at *
  generalize dS s = X6 at *
  have hb2 := hb1.alloc hb1.size (.cells #[.int .i64 D.1, .int .i64 D.2.1, .int .i64 D.2.2, .int .i64 X4, .int .i64 X5, .int .i64 X6] 63)
  have HB2 := Lib.hid hb2
  clear hb1 hb2
  go_cut [6, 22, 24, 26, 27] (fun _ _ _ _ _ wx => Below w.heap.size w wx)
  case first =>
    cases hp : placeB (s / 86400)
    · clear hp
      go_wp2_with fail
      go_meet
      exact HB2.out
    · have HBK2 := Lib.hid (HBK.out hp)
      clear hp
      go_wp2_with fail
      refine (seconds_any _ _ _ _ _ _ _).mono ?_
      rintro e w2 ⟨rfl, hb2⟩
      rw [HBK2.out.1, HBK2.out.2]
      go_wp2_with fail
      go_meet
      exact below_thn HB2.out hb2
  case rest =>
    clear HB2 HBK
    have hb3 := hcut
    clear hcut
    have HOUT := Lib.hid (fun h => @dayOf_out n h)
    have HSP := Lib.hid (fun h1 h2 => @dayOf_spec n h1 h2)
    have HNX := Lib.hid (next_at n)
    have HLS := Lib.hid (last_at n)
    have HOF := Lib.hid (fun h => @of_any (n + 1) h)
    cases hp : placeB n
    · have ho := HOUT.out (by simpa [placeB] using hp)
      have HP := Lib.hid hp
      have HO := Lib.hid ho
      clear hp ho
      go_wp2_with fail
      refine (of_any _ _ hn0 hn1).mono ?_
      rintro e w2 ⟨rfl, hb4⟩
      rw [HP.out, HO.out]
      go_wp2_with fail
      refine (lives5 _).mono ?_
      rintro e w3 ⟨rfl, hb5⟩
      go_wp2_with fail
      go_ret
      exact ⟨rfl, below_thn (below_thn hb3 hb4) hb5⟩
    · have hr : -719162 ≤ n ∧ n ≤ 2932896 := by simpa [placeB] using hp
      obtain ⟨hr1, hr2⟩ := hr
      have hsp := HSP.out hr1 hr2
      have hdb := (dayB_iff _ _ _).2 hsp.1
      have hdi : daysI (dayOf n).1 (dayOf n).2.1 (dayOf n).2.2 = n := by unfold daysI; rw [if_pos hdb]; exact hsp.2
      have HDB := Lib.hid hdb
      have HDI := Lib.hid hdi
      have HISD := Lib.hid hsp.1
      have HP := Lib.hid hp
      have HNX2 := Lib.hid (HNX.out hp)
      have HLS2 := Lib.hid (HLS.out hp)
      clear hsp hdb hdi HNX HLS HSP HOUT hp
      generalize hD0 : dayOf n = D0 at *
      obtain ⟨y, m, d⟩ := D0
      have HD0 := Lib.hid hD0
      clear hD0
      dsimp only at *
      have hyb : 1 ≤ y ∧ y ≤ 9999 ∧ 1 ≤ m ∧ m ≤ 12 ∧ 1 ≤ d ∧ d ≤ 31 := by
        have h := HISD.out
        have h2 := longI_range y m
        unfold IsDay at h
        omega
      go_wp2_with fail
      refine (of_any _ _ hn0 hn1).mono ?_
      rintro e w2 ⟨rfl, hb4⟩
      rw [HP.out]
      rw [HD0.out]
      go_wp2_with fail
      refine (days_any _ _ _ _).mono ?_
      rintro e w3 ⟨rfl, hb5⟩
      rw [HDI.out, HDB.out]
      have hb6 := below_thn (below_thn hb3 hb4) hb5
      clear hb3 hb4 hb5
      have HB6 := Lib.hid hb6
      clear hb6
      cases hq : placeB (n + 1)
      · have hl := HLS2.out hq
        have HQ := Lib.hid hq
        simp only [Prod.mk.injEq] at hl
        obtain ⟨rfl, rfl, rfl⟩ := hl
        clear hq HNX2 HLS2
        go_wp2_with fail
        refine (of_any _ _ (by omega) (by omega)).mono ?_
        rintro e w4 ⟨rfl, hb7⟩
        rw [HQ.out]
        generalize dayOf (n + 1) = D2 at *
        go_wp2_with fail
        refine (lives5 _).mono ?_
        rintro e w5 ⟨rfl, hb8⟩
        go_wp2_with fail
        go_ret
        exact ⟨rfl, below_thn (below_thn HB6.out hb7) hb8⟩
      · have hf := HNX2.out hq
        have HQ := Lib.hid hq
        have hwk : (weekI (n + 1) == (weekI n + 1) % 7) = true := by unfold weekI; rw [beq_iff_eq]; omega
        have hwk0 : 0 ≤ weekI n ∧ weekI n ≤ 6 := by unfold weekI; omega
        have HWK := Lib.hid hwk
        clear hq HNX2 HLS2 hwk
        go_wp2_with fail
        refine (of_any _ _ (by omega) (by omega)).mono ?_
        rintro e w4 ⟨rfl, hb7⟩
        rw [HQ.out]
        have HB7 := Lib.hid (below_thn HB6.out hb7)
        clear hb7 HB6
        generalize dayOf (n + 1) = D2 at *
        obtain ⟨a, b, c⟩ := D2
        dsimp only at *
        rcases hf with ⟨rfl, rfl, rfl, hl⟩ | ⟨rfl, rfl, rfl, hl, hm12⟩ | ⟨rfl, rfl, rfl, hl, hd31⟩
        · have q1 : (b == b + 1) = false := by rw [beq_eq_false_iff_ne]; omega
          have q2 : (a == a + 1) = false := by rw [beq_eq_false_iff_ne]; omega
          have HL := Lib.hid hl
          generalize hLL : longI a b = L at *
          have HLL := Lib.hid hLL
          clear hLL
          go_wp2_with fail
          refine (long_any _ _ _).mono ?_
          rintro e w5 ⟨rfl, hb8⟩
          rw [HLL.out]
          go_wp2_with fail
          refine (weekday_any _ _).mono ?_
          rintro e w' ⟨rfl, rfl⟩
          go_wp2_with fail
          refine (weekday_any _ _).mono ?_
          rintro e w' ⟨rfl, rfl⟩
          have hwk := HWK.out
          go_wp2_with fail
          refine (lives5 _).mono ?_
          rintro e w6 ⟨rfl, hb9⟩
          go_wp2_with fail
          go_ret
          exact ⟨rfl, below_thn (below_thn HB7.out hb8) hb9⟩
        · have q0 : (m + 1 == m) = false := by rw [beq_eq_false_iff_ne]; omega
          have q2 : (a == a + 1) = false := by rw [beq_eq_false_iff_ne]; omega
          have hL := longI_range a m
          generalize hLL : longI a m = L at *
          have HLL := Lib.hid hLL
          clear hLL
          have HL := Lib.hid hl
          subst hl
          go_wp2_with fail
          refine (long_any _ _ _).mono ?_
          rintro e w5 ⟨rfl, hb8⟩
          rw [HLL.out]
          go_wp2_with fail
          refine (weekday_any _ _).mono ?_
          rintro e w' ⟨rfl, rfl⟩
          go_wp2_with fail
          refine (weekday_any _ _).mono ?_
          rintro e w' ⟨rfl, rfl⟩
          have hwk := HWK.out
          go_wp2_with fail
          refine (lives5 _).mono ?_
          rintro e w6 ⟨rfl, hb9⟩
          go_wp2_with fail
          go_ret
          exact ⟨rfl, below_thn (below_thn HB7.out hb8) hb9⟩
        · have q0 : (y + 1 == y) = false := by rw [beq_eq_false_iff_ne]; omega
          subst hl hd31
          go_wp2_with fail
          refine (weekday_any _ _).mono ?_
          rintro e w' ⟨rfl, rfl⟩
          go_wp2_with fail
          refine (weekday_any _ _).mono ?_
          rintro e w' ⟨rfl, rfl⟩
          have hwk := HWK.out
          go_wp2_with fail
          refine (lives5 _).mono ?_
          rintro e w6 ⟨rfl, hb9⟩
          go_wp2_with fail
          go_ret
          exact ⟨rfl, below_thn HB7.out hb9⟩
end Go.Proofs.Ytbflkgphkiilgaa
