/- Heads (layer 22): whether a head is right, the document's (bin/mkhqd.py). -/
import Derived.Test.YtcbfhlnnfnpkdaaGreatDoorHqc
namespace Go.Proofs.YtcbfhlnnfnpkdaaGreatDoor
open Go.RowKit
set_option linter.unusedVariables false
set_option linter.unusedSimpArgs false

def hTop (m t : ByteArray) (mi st : Int) (r : ByteArray) : Bool := hMi mi && (if m.size = 0 then decide (t.size = 0) && (decide (100 ≤ st) && (decide (st ≤ 599) && allB valueB r)) else tokenB m && (visibleB t && (decide (st = 0) && decide (r.size = 0))))
theorem right_top (m t : ByteArray) (mi st : Int) (r : ByteArray) (l : List Fld) : rightH m t mi st r l = (hTop m t mi st r && !anyX l) := by
  unfold rightH hTop hAsk hAns
  by_cases h : m.size = 0
  · rw [token_ne h, decide_eq_true h, if_pos h]
    cases hMi mi <;> simp
  · rw [decide_eq_false h, if_neg h]
    cases hMi mi <;> simp
theorem not_anyX_take {l : List Fld} {k : Nat} (h : k < l.length) : (!anyX (l.take (k + 1))) = ((!anyX (l.take k)) && fRight l[k].1 l[k].2) := by
  rw [anyX_take h]
  cases anyX (l.take k) <;> simp
set_option maxRecDepth 100000 in
set_option maxHeartbeats 4000000 in
theorem rright22_any (m t : ByteArray) (mi st : Int) (r : ByteArray) (v : Value) (l : List Fld) (w : World) (hv : RdF w v l) (hl : l.length ≤ 10000) (hz : ∀ p ∈ l, FldSm p) (hm : m.size ≤ 100000) (ht : t.size ≤ 100000) (hr : r.size ≤ 100000) :
    Calls Tryz.prog 16 #[.agg #[.string m, .string t, .int .i64 mi, .int .i64 st, .string r, v]] w fun e w' => e = .returned (.bool (rightH m t mi st r l)) ∧ Below w.heap.size w w' := by
  have HV := Kp.mk hv
  have HZ := Kp.mk hz
  have HT := Kp.mk (fun w => ref_token_any m w (by unfold maxLen; omega))
  have HVI := Kp.mk (fun w => ref_visible_any t w (by unfold maxLen; omega))
  have HVA := Kp.mk (fun w => ref_value_any r w (by unfold maxLen; omega))
  have HR := Kp.mk (right_top m t mi st r l)
  have HTP := Kp.mk (show hTop m t mi st r = (hMi mi && (if m.size = 0 then decide (t.size = 0) && (decide (100 ≤ st) && (decide (st ≤ 599) && allB valueB r)) else tokenB m && (visibleB t && (decide (st = 0) && decide (r.size = 0))))) from rfl)
  have HM := Kp.mk (show hMi mi = (decide (mi = 0) || decide (mi = 1)) from rfl)
  have HEM := Kp.mk (emp_or22 m)
  have HET := Kp.mk (emp_or22 t)
  have HER := Kp.mk (emp_or22 r)
  obtain ⟨a, c, rfl, -, -, -⟩ := hv
  have HX := Kp.mk (HBq.new m t mi st r (.slice a l.length c) w)
  generalize rightH m t mi st r l = R at *
  generalize hTop m t mi st r = A at *
  generalize hMi mi = C at *
  clear hz
  go_enter Tryz.func16, Tryz.ntmps16
  go_upto_region 1 with fail
  generalize w.alloc (.cells #[.string m, .string t, .int .i64 mi, .int .i64 st, .string r, .slice a l.length c] 29) = wa at *
  go_cut [3] (fun s3 wx => s3 = .bool C ∧ HBq m t mi st r (.slice a l.length c) w wx)
  case first =>
    clear HTP HR HVA HZ HV HEM HET HER HT HVI
    have c2 := blk_cell (i := 2) HX.out.box rfl
    by_cases h0 : mi = 0
    · subst h0
      go_wp2_with fail
      go_meet
      exact ⟨by rw [HM.out]; rfl, HX.out⟩
    by_cases h1 : mi = 1
    · subst h1
      go_wp2_with fail
      go_meet
      exact ⟨by rw [HM.out]; rfl, HX.out⟩
    have t1 : (mi == 0) = false := by rw [beq_eq_false_iff_ne]; omega
    have t2 : (mi == 1) = false := by rw [beq_eq_false_iff_ne]; omega
    go_wp2_with fail
    go_meet
    exact ⟨by rw [HM.out, decide_eq_false h0, decide_eq_false h1]; rfl, HX.out⟩
  case rest =>
    obtain ⟨rfl, hx⟩ := hcut
    have HX1 := Kp.mk hx
    clear hx HX HM
    have c0 := blk_cell (i := 0) HX1.out.box rfl
    have c1 := blk_cell (i := 1) HX1.out.box rfl
    have c3 := blk_cell (i := 3) HX1.out.box rfl
    have c4 := blk_cell (i := 4) HX1.out.box rfl
    have HTAIL : ∀ A0 : Bool, A = A0 → True := fun _ _ => trivial
    have HLOOP := Kp.mk (show ∀ k : Nat, k ≤ l.length → True from fun _ _ => trivial)
    clear HTAIL HLOOP
    go_upto_region 2 with fail
    rcases HEM.out with ⟨hm0, h4⟩ | ⟨h4, h5, h6, h7⟩
    · have HTP0 := Kp.mk (show A = (C && (decide (t.size = 0) && (decide (100 ≤ st) && (decide (st ≤ 599) && allB valueB r)))) by rw [HTP.out, if_pos (of_decide_eq_true h4)])
      clear HTP HEM h4 HT HVI HER
      subst hm0
      go_upto_region 4 with fail
      go_cut [3] (fun s3 wx => s3 = .bool A ∧ HBq ⟨#[]⟩ t mi st r (.slice a l.length c) w wx)
      case first =>
        clear HR HZ HV
        cases C
        · have HQ := Kp.mk (show A = false by rw [HTP0.out]; rfl)
          clear HTP0 HET
          go_wp2_with fail
          go_meet
          exact ⟨by rw [HQ.out], HX1.out⟩
        rcases HET.out with ⟨ht0, k4⟩ | ⟨k4, k5, k6, k7⟩
        · by_cases g1 : 100 ≤ st
          · have t1 : decide (100 ≤ st) = true := decide_eq_true g1
            by_cases g2 : st ≤ 599
            · have t2 : decide (st ≤ 599) = true := decide_eq_true g2
              have HQ := Kp.mk (show A = allB valueB r by rw [HTP0.out, k4, t1, t2]; rfl)
              clear HTP0 HET k4
              subst ht0
              go_wp2_with fail
              refine (HVA.out _).mono ?_
              rintro e w2 ⟨rfl, rfl⟩
              go_wp2_with fail
              go_meet
              exact ⟨by rw [HQ.out], HX1.out⟩
            · have t2 : decide (st ≤ 599) = false := decide_eq_false g2
              have HQ := Kp.mk (show A = false by rw [HTP0.out, k4, t1, t2]; rfl)
              clear HTP0 HET k4
              subst ht0
              go_wp2_with fail
              go_meet
              exact ⟨by rw [HQ.out], HX1.out⟩
          · have t1 : decide (100 ≤ st) = false := decide_eq_false g1
            have HQ := Kp.mk (show A = false by rw [HTP0.out, k4, t1]; rfl)
            clear HTP0 HET k4
            subst ht0
            go_wp2_with fail
            go_meet
            exact ⟨by rw [HQ.out], HX1.out⟩
        · have HQ := Kp.mk (show A = false by rw [HTP0.out, k4]; rfl)
          clear HTP0 HET k4
          go_wp2_with fail
          go_meet
          exact ⟨by rw [HQ.out], HX1.out⟩
      case rest =>
        obtain ⟨rfl, hx⟩ := hcut
        have HX2 := Kp.mk hx
        clear hx HX1 c0 c1 c3 c4 HTP0
        go_wp2_with fail
        go_loopw [3, 4] (fun b i wr => ∃ k : Nat, k ≤ l.length ∧ i = .int .i64 k ∧ b = .bool (A && !anyX (l.take k)) ∧ HBq ⟨#[]⟩ t mi st r (.slice a l.length c) w wr) (fun _ i _ => l.length - (intOf i).toNat)
        case atStart => exact ⟨0, by omega, rfl, by simp [anyX], HX2.out⟩
        case round =>
          obtain ⟨k, hk, rfl, rfl, hx⟩ := hrel
          have HXK := Kp.mk hx
          have c5 := blk_cell (i := 5) hx.box rfl
          have hszw := hx.bel.size
          by_cases hlt : k < l.length
          · obtain ⟨g, o, rfl, hgl, d0⟩ := rdf_cells (HV.out.below hx.bel) (by omega)
            obtain ⟨c1, c2⟩ := d0 k hlt
            have hs := HZ.out _ (List.getElem_mem hlt)
            have q0 : (0 : Int) ≤ (k : Int) := by omega
            have q1 : (k : Int) < (l.length : Int) := by omega
            have HNT := Kp.mk (not_anyX_take hlt)
            clear d0 hx
            generalize l[k] = f at *
            obtain ⟨x, y⟩ := f
            dsimp only at c1 c2 HNT
            have HFR := Kp.mk (fun W => rfright_any x y W (Nat.le_trans hs.1 (by omega)) (Nat.le_trans hs.2 (by omega)))
            clear hs
            cases hA : (A && !anyX (l.take k))
            · have HQ := Kp.mk (show (A && !anyX (l.take (k + 1))) = false by rw [HNT.out, ← Bool.and_assoc, hA]; rfl)
              go_wp2_with fail
              go_roundw
              case rel => exact ⟨k + 1, by omega, by go_num, by rw [HQ.out], HXK.out⟩
              case measure => simp [intOf]; omega
            · go_wp2_with fail
              refine (HFR.out _).mono ?_
              rintro e w4 ⟨rfl, hb4⟩
              have HX4 := Kp.mk (HXK.out.next hb4)
              have HQ := Kp.mk (show (A && !anyX (l.take (k + 1))) = fRight x y by rw [HNT.out, ← Bool.and_assoc, hA]; rfl)
              clear hb4
              go_wp2_with fail
              go_roundw
              case rel => exact ⟨k + 1, by omega, by go_num, by rw [HQ.out], HX4.out⟩
              case measure => simp [intOf]; omega
          · have HQ := Kp.mk (show R = (A && !anyX (l.take k)) by rw [HR.out, List.take_of_length_le (by omega)])
            clear hx
            go_wp2_with fail
            go_ret
            exact ⟨by rw [HQ.out]; rfl, HXK.out.bel⟩
    · have HTP0 := Kp.mk (show A = (C && (tokenB m && (visibleB t && (decide (st = 0) && decide (r.size = 0))))) by rw [HTP.out, if_neg h5])
      clear HTP HEM h4 HVA HET
      go_upto_region 3 with fail
      go_cut [3] (fun s3 wx => s3 = .bool A ∧ HBq m t mi st r (.slice a l.length c) w wx)
      case first =>
        clear HR HZ HV
        cases C
        · have HQ := Kp.mk (show A = false by rw [HTP0.out]; rfl)
          clear HTP0
          go_wp2_with fail
          go_meet
          exact ⟨by rw [HQ.out], HX1.out⟩
        go_wp2_with fail
        refine (HT.out _).mono ?_
        rintro e w1 ⟨rfl, rfl⟩
        cases hA : tokenB m
        · have HQ := Kp.mk (show A = false by rw [HTP0.out, hA]; rfl)
          clear HTP0
          go_wp2_with fail
          go_meet
          exact ⟨by rw [HQ.out], HX1.out⟩
        go_wp2_with fail
        refine (HVI.out _).mono ?_
        rintro e w1 ⟨rfl, rfl⟩
        cases hB : visibleB t
        · have HQ := Kp.mk (show A = false by rw [HTP0.out, hA, hB]; rfl)
          clear HTP0
          go_wp2_with fail
          go_meet
          exact ⟨by rw [HQ.out], HX1.out⟩
        by_cases h3 : st = 0
        · rcases HER.out with ⟨hr0, k4⟩ | ⟨k4, k5, k6, k7⟩
          · have HQ := Kp.mk (show A = true by rw [HTP0.out, hA, hB, decide_eq_true h3, k4]; rfl)
            clear HTP0 HER k4
            subst hr0
            subst h3
            go_wp2_with fail
            go_meet
            exact ⟨by rw [HQ.out], HX1.out⟩
          · have HQ := Kp.mk (show A = false by rw [HTP0.out, hA, hB, decide_eq_true h3, k4]; rfl)
            clear HTP0 HER k4
            subst h3
            go_wp2_with fail
            go_meet
            exact ⟨by rw [HQ.out], HX1.out⟩
        · have t3 : (st == 0) = false := by rw [beq_eq_false_iff_ne]; exact h3
          have HQ := Kp.mk (show A = false by rw [HTP0.out, hA, hB, decide_eq_false h3]; rfl)
          clear HTP0 HER
          go_wp2_with fail
          go_meet
          exact ⟨by rw [HQ.out], HX1.out⟩
      case rest =>
        obtain ⟨rfl, hx⟩ := hcut
        have HX2 := Kp.mk hx
        clear hx HX1 c0 c1 c3 c4 HTP0
        go_wp2_with fail
        go_loopw [3, 4] (fun b i wr => ∃ k : Nat, k ≤ l.length ∧ i = .int .i64 k ∧ b = .bool (A && !anyX (l.take k)) ∧ HBq m t mi st r (.slice a l.length c) w wr) (fun _ i _ => l.length - (intOf i).toNat)
        case atStart => exact ⟨0, by omega, rfl, by simp [anyX], HX2.out⟩
        case round =>
          obtain ⟨k, hk, rfl, rfl, hx⟩ := hrel
          have HXK := Kp.mk hx
          have c5 := blk_cell (i := 5) hx.box rfl
          have hszw := hx.bel.size
          by_cases hlt : k < l.length
          · obtain ⟨g, o, rfl, hgl, d0⟩ := rdf_cells (HV.out.below hx.bel) (by omega)
            obtain ⟨c1, c2⟩ := d0 k hlt
            have hs := HZ.out _ (List.getElem_mem hlt)
            have q0 : (0 : Int) ≤ (k : Int) := by omega
            have q1 : (k : Int) < (l.length : Int) := by omega
            have HNT := Kp.mk (not_anyX_take hlt)
            clear d0 hx
            generalize l[k] = f at *
            obtain ⟨x, y⟩ := f
            dsimp only at c1 c2 HNT
            have HFR := Kp.mk (fun W => rfright_any x y W (Nat.le_trans hs.1 (by omega)) (Nat.le_trans hs.2 (by omega)))
            clear hs
            cases hA : (A && !anyX (l.take k))
            · have HQ := Kp.mk (show (A && !anyX (l.take (k + 1))) = false by rw [HNT.out, ← Bool.and_assoc, hA]; rfl)
              go_wp2_with fail
              go_roundw
              case rel => exact ⟨k + 1, by omega, by go_num, by rw [HQ.out], HXK.out⟩
              case measure => simp [intOf]; omega
            · go_wp2_with fail
              refine (HFR.out _).mono ?_
              rintro e w4 ⟨rfl, hb4⟩
              have HX4 := Kp.mk (HXK.out.next hb4)
              have HQ := Kp.mk (show (A && !anyX (l.take (k + 1))) = fRight x y by rw [HNT.out, ← Bool.and_assoc, hA]; rfl)
              clear hb4
              go_wp2_with fail
              go_roundw
              case rel => exact ⟨k + 1, by omega, by go_num, by rw [HQ.out], HX4.out⟩
              case measure => simp [intOf]; omega
          · have HQ := Kp.mk (show R = (A && !anyX (l.take k)) by rw [HR.out, List.take_of_length_le (by omega)])
            clear hx
            go_wp2_with fail
            go_ret
            exact ⟨by rw [HQ.out]; rfl, HXK.out.bel⟩
end Go.Proofs.YtcbfhlnnfnpkdaaGreatDoor
