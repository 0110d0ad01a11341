/- Dates of fields (layer 6): the document's day of any date, and its Parse over what its Form tells (bin/mkdtm.py). · Dates of fields (layer 6): the document's Fix over what its Parse tells. -/
import Derived.Test.YtgamekfickheaaaGreatDtn
import Derived.Test.YtgamekfickheaaaGreatDtg
namespace Go.Proofs.YtgamekfickheaaaGreat
open Go.RowKit
set_option linter.unusedVariables false
set_option linter.unusedSimpArgs false

theorem rdayG_any (y m d H M S : Int) (w : World) :
    Calls Tryz.prog 104 #[.agg #[.int .i64 y, .int .i64 m, .int .i64 d, .int .i64 H, .int .i64 M, .int .i64 S]] w fun e w' => e = .returned (.int .i64 (weekI (daysI y m d))) ∧ Below w.heap.size w w' := by
  go_enter Tryz.func104, Tryz.ntmps104
  go_wp2_with fail
  refine (ref_days_any _ _ _ _).mono ?_
  rintro e w1 ⟨rfl, rfl⟩
  go_wp2_with fail
  refine (ref_weekday_any _ _).mono ?_
  rintro e w1 ⟨rfl, rfl⟩
  go_wp2_with fail
  go_ret
  exact ⟨rfl, (Below.refl _ _).alloc (Nat.le_refl _) _⟩
theorem days_sec {y m d h i s : Int} (hs : secB y m d h i s = true) : daysI y m d = secI y m d h i s / 86400 := by
  unfold secI
  rw [if_pos hs]
  unfold secB at hs
  rw [Bool.and_eq_true] at hs
  have h2 := hs.2
  simp only [timeB, decide_eq_true_eq] at h2
  unfold daysI
  rw [if_pos hs.1]
  omega
def parG (F : Nat → Option Fd) : List Nat → Int × Int × Int
  | [] => (0, 0, 3)
  | k :: ks => match F k with | none => parG F ks | some g => if (secB g.y g.m g.d g.h g.i g.s && (weekI (secI g.y g.m g.d g.h g.i g.s / 86400) == g.wk)) = true then (secI g.y g.m g.d g.h g.i g.s, (k : Int), 0) else (0, 0, 16)
theorem parG_none {F : Nat → Option Fd} {k : Nat} (h0 : 1 ≤ k) (hk : k ≤ 3) (h : F k = none) : parG F ([1, 2, 3].drop (k - 1)) = parG F ([1, 2, 3].drop (k + 1 - 1)) := by
  rcases (by omega : k = 1 ∨ k = 2 ∨ k = 3) with rfl | rfl | rfl
  all_goals
    conv => lhs; simp only [Nat.reduceSub, List.drop_zero, List.drop_succ_cons]; unfold parG
    rw [h]
    rfl
theorem parG_some {F : Nat → Option Fd} {k : Nat} {g : Fd} (h0 : 1 ≤ k) (hk : k ≤ 3) (h : F k = some g) : parG F ([1, 2, 3].drop (k - 1)) = if (secB g.y g.m g.d g.h g.i g.s && (weekI (secI g.y g.m g.d g.h g.i g.s / 86400) == g.wk)) = true then (secI g.y g.m g.d g.h g.i g.s, (k : Int), 0) else (0, 0, 16) := by
  rcases (by omega : k = 1 ∨ k = 2 ∨ k = 3) with rfl | rfl | rfl
  all_goals
    conv => lhs; simp only [Nat.reduceSub, List.drop_zero, List.drop_succ_cons]; unfold parG
    rw [h]
def RetFo (o : Option Fd) (w : World) (e : Ending) (w' : World) : Prop :=
  ∃ g : Fd, e = .returned (.tuple #[.agg #[.int .i64 g.y, .int .i64 g.m, .int .i64 g.d, .int .i64 g.h, .int .i64 g.i, .int .i64 g.s], .int .i64 g.wk, .bool o.isSome]) ∧ Below w.heap.size w w' ∧ ∀ f, o = some f → g = f
set_option maxRecDepth 100000 in
set_option maxHeartbeats 4000000 in
theorem dparse_of (tx : ByteArray) (now : Int) (F : Nat → Option Fd) (w : World) (n0 : -9223372036854775808 ≤ now) (n1 : now ≤ 9223372036854775807) (hpl : placeB (now / 86400) = true)
    (hF : ∀ k : Nat, 1 ≤ k ∧ k ≤ 3 → ∀ w, Calls Tryz.prog 102 #[.string tx, .int .i64 (k : Int), .int .i64 now] w (RetFo (F k) w)) :
    Calls Tryz.prog 82 #[.string tx, .int .i64 now] w (RetP (parG F [1, 2, 3]) w) := by
  have HF := Kp.mk hF
  have HP := Kp.mk (show parG F [1, 2, 3] = parG F ([1, 2, 3].drop (1 - 1)) from rfl)
  have HD := Kp.mk (fun w => ref_date_any now w n0 n1)
  rw [hpl] at HD
  generalize hR : parG F [1, 2, 3] = R at *
  clear hF hpl n0 n1 hR
  go_enter Tryz.func82, Tryz.ntmps82
  go_wp2_with fail
  refine (HD.out _).mono ?_
  rintro e w1 ⟨rfl, hb⟩
  have HB := Kp.mk (hb.trans (((Below.refl w1.heap.size w1).alloc (Nat.le_refl _) (.cells #[.int .i64 (dayOf (now / 86400)).1, .int .i64 (dayOf (now / 86400)).2.1, .int .i64 (dayOf (now / 86400)).2.2, .int .i64 (dH now), .int .i64 (dM now), .int .i64 (dS now)] 66)).mono hb.size))
  clear hb
  go_wp2_with fail
  go_loopw [9] (fun x wr => ∃ k : Nat, 1 ≤ k ∧ k ≤ 4 ∧ x = .int .i64 k ∧ R = parG F ([1, 2, 3].drop (k - 1)) ∧ Below w.heap.size w wr) (fun x _ => 4 - (intOf x).toNat)
  case atStart => exact ⟨1, by omega, by omega, rfl, HP.out, HB.out⟩
  case round =>
    obtain ⟨k, hk0, hk, rfl, hP, hbw⟩ := hrel
    clear HP HB HD
    have HPk := Kp.mk hP
    have HBk := Kp.mk hbw
    clear hP hbw
    by_cases hlt : k ≤ 3
    · have q1 : (k : Int) ≤ 3 := by omega
      have q0 : (1 : Int) ≤ (k : Int) := by omega
      go_wp2_with fail
      refine (HF.out k ⟨hk0, hlt⟩ _).mono ?_
      rintro e w2 ⟨g, rfl, hb, hg⟩
      have HB2 := Kp.mk (HBk.out.trans (hb.mono HBk.out.size))
      clear hb
      cases ho : F k with
      | none =>
        have HN := Kp.mk (HPk.out.trans (parG_none hk0 hlt ho))
        have HB3 := Kp.mk (HB2.out.alloc HB2.out.size (.cells #[.int .i64 g.y, .int .i64 g.m, .int .i64 g.d, .int .i64 g.h, .int .i64 g.i, .int .i64 g.s] 66))
        clear ho hg HPk
        go_wp2_with fail
        go_roundw
        case rel => exact ⟨k + 1, by omega, by omega, by go_num, HN.out, HB3.out⟩
        case measure => simp [intOf]; omega
      | some f =>
        obtain rfl := hg f ho
        have HS := Kp.mk (HPk.out.trans (parG_some hk0 hlt ho))
        clear ho hg HPk
        obtain ⟨l, y, m, d, h, i, s, wk⟩ := g
        have HX := Kp.mk (heap_alloc_new w2 (.cells #[.int .i64 y, .int .i64 m, .int .i64 d, .int .i64 h, .int .i64 i, .int .i64 s] 66))
        have HB3 := Kp.mk (HB2.out.alloc HB2.out.size (.cells #[.int .i64 y, .int .i64 m, .int .i64 d, .int .i64 h, .int .i64 i, .int .i64 s] 66))
        have c0 := blk_cell (i := 0) HX.out rfl
        have c1 := blk_cell (i := 1) HX.out rfl
        have c2 := blk_cell (i := 2) HX.out rfl
        have c3 := blk_cell (i := 3) HX.out rfl
        have c4 := blk_cell (i := 4) HX.out rfl
        have c5 := blk_cell (i := 5) HX.out rfl
        go_wp2_with fail
        refine (ref_seconds_any y m d h i s _).mono ?_
        rintro e w3 ⟨rfl, hb⟩
        have HX3 := Kp.mk ((hb.block _ (blk_lt HX.out)).trans HX.out)
        have HB4 := Kp.mk (HB3.out.trans (hb.mono HB3.out.size))
        clear hb c0 c1 c2 c3 c4 c5
        have c0 := blk_cell (i := 0) HX3.out rfl
        have c1 := blk_cell (i := 1) HX3.out rfl
        have c2 := blk_cell (i := 2) HX3.out rfl
        have c3 := blk_cell (i := 3) HX3.out rfl
        have c4 := blk_cell (i := 4) HX3.out rfl
        have c5 := blk_cell (i := 5) HX3.out rfl
        have HQ := Kp.mk (show R = if (secB y m d h i s && (weekI (secI y m d h i s / 86400) == wk)) = true then (secI y m d h i s, (k : Int), 0) else (0, 0, 16) from HS.out)
        have HE := Kp.mk (fun hs : secB y m d h i s = true => days_sec hs)
        have HDY := Kp.mk (fun w => rdayG_any y m d h i s w)
        clear HS
        generalize secI y m d h i s = X at *
        cases hsb : secB y m d h i s
        · rw [hsb] at HQ
          have HQ2 := Kp.mk (show R = (0, 0, 16) from HQ.out)
          clear HQ hsb HE
          go_wp2_with fail
          exact bodyPost_ret (v := .tuple #[.int .i64 0, .int .i64 0, .int .i64 16]) (by simp [results, Tryz.results82, go_sem]) rfl ⟨by rw [HQ2.out], HB4.out⟩
        · rw [hsb] at HQ
          have he := HE.out hsb
          rw [he] at HDY
          have HQ2 := Kp.mk (show R = if (weekI (X / 86400) == wk) = true then (X, (k : Int), 0) else (0, 0, 16) from HQ.out)
          clear HQ hsb HE he
          generalize weekI (X / 86400) = V at *
          cases hv : (V == wk)
          · rw [hv] at HQ2
            have HQ3 := Kp.mk (show R = (0, 0, 16) from HQ2.out)
            have hv2 : (V != wk) = true := by simp [bne, hv]
            clear HQ2
            go_wp2_with fail
            refine (HDY.out _).mono ?_
            rintro e w4 ⟨rfl, hb⟩
            go_wp2_with fail
            exact bodyPost_ret (v := .tuple #[.int .i64 0, .int .i64 0, .int .i64 16]) (by simp [results, Tryz.results82, go_sem]) rfl ⟨by rw [HQ3.out], HB4.out.trans (hb.mono HB4.out.size)⟩
          · rw [hv] at HQ2
            have HQ3 := Kp.mk (show R = (X, (k : Int), 0) from HQ2.out)
            have hv2 : (V != wk) = false := by simp [bne, hv]
            clear HQ2
            go_wp2_with fail
            refine (HDY.out _).mono ?_
            rintro e w4 ⟨rfl, hb⟩
            go_wp2_with fail
            exact bodyPost_ret (v := .tuple #[.int .i64 X, .int .i64 (k : Int), .int .i64 0]) (by simp [results, Tryz.results82, go_sem]) rfl ⟨by rw [HQ3.out], HB4.out.trans (hb.mono HB4.out.size)⟩
    · obtain rfl : k = 4 := by omega
      have HQ := Kp.mk (show R = (0, 0, 3) from HPk.out)
      clear HPk
      go_wp2_with fail
      exact bodyPost_ret (v := .tuple #[.int .i64 0, .int .i64 0, .int .i64 3]) (by simp [results, Tryz.results82, go_sem]) rfl ⟨by rw [HQ.out], HBk.out⟩
end Go.Proofs.YtgamekfickheaaaGreat
namespace Go.Proofs.YtgamekfickheaaaGreat
open Go.RowKit
set_option linter.unusedVariables false
set_option linter.unusedSimpArgs false

def fixO (p : Int × Int × Int) (tx P : ByteArray) : ByteArray := if p.2.2 = 0 then P else tx
end Go.Proofs.YtgamekfickheaaaGreat
