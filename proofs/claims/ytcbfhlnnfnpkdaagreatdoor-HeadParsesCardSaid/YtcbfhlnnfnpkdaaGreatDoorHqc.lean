/- Heads (layer 22): whether a head is right, on both sides (bin/mkhqc.py). -/
import Derived.Test.YtcbfhlnnfnpkdaaGreatDoorHqb
import Derived.Test.YtcbfhlnnfnpkdaaGreatDoorKeeps
import Derived.Deep.DeepCutAuto
namespace Go.Proofs.YtcbfhlnnfnpkdaaGreatDoor
open Go.RowKit
set_option linter.unusedVariables false
set_option linter.unusedSimpArgs false

theorem hwrong_any (x y : ByteArray) (w : World) (hn : x.size ≤ 1000000) (hv : y.size ≤ 1000000) :
    Calls Tryz.prog 45 #[.agg #[.string x, .string y]] w fun e w' => e = .returned (.bool (!fRight x y)) ∧ Below w.heap.size w w' := by
  have HB := Kp.mk ((Below.refl w.heap.size w).alloc (Nat.le_refl _) (.cells #[.string x, .string y] 67))
  go_enter Tryz.func45, Tryz.ntmps45
  go_wp2_with fail
  refine (fright_any x y _ hn hv).mono ?_
  rintro e w1 ⟨rfl, hb1⟩
  go_wp2_with fail
  go_ret
  exact ⟨rfl, HB.out.trans (hb1.mono HB.out.size)⟩
def anyX (l : List Fld) : Bool := l.any fun p => !fRight p.1 p.2
theorem anyX_take {l : List Fld} {k : Nat} (h : k < l.length) : anyX (l.take (k + 1)) = (anyX (l.take k) || !fRight l[k].1 l[k].2) := by
  unfold anyX
  rw [List.take_succ_eq_append_getElem h, List.any_append]
  simp
theorem anyX_hit {l : List Fld} {k : Nat} (h : k < l.length) (hf : fRight l[k].1 l[k].2 = false) : anyX l = true := by
  unfold anyX
  exact List.any_eq_true.2 ⟨l[k], List.getElem_mem h, by simp [hf]⟩
def IdfX (l : List Fld) (w : World) (e : Ending) (w' : World) : Prop := ∃ r : Int, e = .returned (.int .i64 r) ∧ decide (0 ≤ r) = anyX l ∧ Below w.heap.size w w'
set_option maxRecDepth 100000 in
set_option maxHeartbeats 2000000 in
theorem ixx_any (v : Value) (l : List Fld) (w : World) (hv : RdF w v l) (hz : ∀ p ∈ l, FldSm p) (hl : l.length ≤ 10000) :
    Calls Tryz.prog 96 #[v, .func (.func 45) #[] #[]] w (IdfX l w) := by
  have HV := Kp.mk hv
  have HZ := Kp.mk hz
  obtain ⟨a, cap, rfl, -, -, -⟩ := hv
  clear hz
  have HB0 := Kp.mk (Below.refl w.heap.size w)
  unfold IdfX
  go_enter Tryz.func96, Tryz.ntmps96
  go_wp2_with fail
  go_loopw [8] (fun i wr => ∃ k : Nat, k ≤ l.length ∧ i = .int .i64 k ∧ anyX (l.take k) = false ∧ Below w.heap.size w wr) (fun i _ => l.length - (intOf i).toNat)
  case atStart => exact ⟨0, by omega, rfl, rfl, HB0.out⟩
  case round =>
    obtain ⟨k, hk, rfl, hh, hb⟩ := hrel
    have HB := Kp.mk hb
    have HH := Kp.mk hh
    have hsz := hb.size
    clear hh hb
    by_cases hlt : k < l.length
    · obtain ⟨g, o, rfl, hgl, d0⟩ := rdf_cells (HV.out.below HB.out) (by omega)
      obtain ⟨c1, c2⟩ := d0 k hlt
      have hs := HZ.out _ (List.getElem_mem hlt)
      have q0 : (0 : Int) ≤ (k : Int) := by omega
      have q1 : (k : Int) < (l.length : Int) := by omega
      have HT := Kp.mk (anyX_take hlt)
      have HHit := Kp.mk (anyX_hit hlt)
      clear d0
      generalize l[k] = f at *
      obtain ⟨x, y⟩ := f
      dsimp only at c1 c2 HT HHit
      have HWR := Kp.mk (fun W => hwrong_any x y W (Nat.le_trans hs.1 (by omega)) (Nat.le_trans hs.2 (by omega)))
      clear hs
      go_wp2_with fail
      refine (HWR.out _).mono ?_
      rintro e w2 ⟨rfl, hb2⟩
      have HB2 := Kp.mk (HB.out.trans (hb2.mono hsz))
      clear hb2 HWR
      cases hf : fRight x y
      · have HT2 := Kp.mk (HHit.out hf)
        go_wp2_with fail
        go_ret
        exact ⟨_, rfl, by rw [HT2.out]; exact decide_eq_true (by omega), HB2.out⟩
      · have HT2 := Kp.mk (show anyX (l.take (k + 1)) = false by rw [HT.out, hf, HH.out]; rfl)
        go_wp2_with fail
        go_roundw
        case rel => exact ⟨k + 1, by omega, by go_num, HT2.out, HB2.out⟩
        case measure => simp [intOf]; omega
    · have HK := Kp.mk (show anyX l = false by have := HH.out; rwa [List.take_of_length_le (by omega)] at this)
      go_wp2_with fail
      go_ret
      exact ⟨-1, rfl, by rw [HK.out]; rfl, HB.out⟩
theorem cox_any (v : Value) (l : List Fld) (w : World) (hv : RdF w v l) (hz : ∀ p ∈ l, FldSm p) (hl : l.length ≤ 10000) :
    Calls Tryz.prog 47 #[v, .func (.func 45) #[] #[]] w fun e w' => e = .returned (.bool (anyX l)) ∧ Below w.heap.size w w' := by
  have HI := Kp.mk (ixx_any v l w hv hz hl)
  unfold IdfX at HI
  clear hv hz
  go_enter Tryz.func47, Tryz.ntmps47
  go_wp2_with fail
  refine HI.out.mono ?_
  rintro e w1 ⟨r, rfl, hr, hb⟩
  have HR := Kp.mk hr
  clear hr
  go_wp2_with fail
  go_ret
  exact ⟨by rw [← HR.out]; rfl, hb⟩
/-! ### P22.4: right -/
def hAsk (m t : ByteArray) (st : Int) (r : ByteArray) : Bool := tokenB m && (visibleB t && (decide (st = 0) && decide (r.size = 0)))
def hAns (m t : ByteArray) (st : Int) (r : ByteArray) : Bool := decide (m.size = 0) && (decide (t.size = 0) && (decide (100 ≤ st) && (decide (st ≤ 599) && allB valueB r)))
def hMi (mi : Int) : Bool := decide (mi = 0) || decide (mi = 1)
def rightH (m t : ByteArray) (mi st : Int) (r : ByteArray) (l : List Fld) : Bool := (hAsk m t st r || hAns m t st r) && (hMi mi && !anyX l)
theorem emp_or22 (x : ByteArray) : (x = ⟨#[]⟩ ∧ decide (x.size = 0) = true) ∨ (decide (x.size = 0) = false ∧ x.size ≠ 0 ∧ x.toList.isEmpty = false ∧ ¬ x.toList = []) := by
  by_cases h : x.size = 0
  · exact .inl ⟨emp_of h, decide_eq_true h⟩
  · exact .inr ⟨decide_eq_false h, h, (emp_ne h).1, (emp_ne h).2⟩
theorem token_ne {m : ByteArray} (h : m.size = 0) : tokenB m = false := by
  rw [emp_of h]; decide
/-- The head's box. -/
structure HBq (m t : ByteArray) (mi st : Int) (r : ByteArray) (u : Value) (w wr : World) : Prop where
  box : wr.heap[w.heap.size]? = some (.cells #[.string m, .string t, .int .i64 mi, .int .i64 st, .string r, u] 29 (0, 0))
  bel : Below w.heap.size w wr
theorem HBq.new (m t : ByteArray) (mi st : Int) (r : ByteArray) (u : Value) (w : World) : HBq m t mi st r u w (w.alloc (.cells #[.string m, .string t, .int .i64 mi, .int .i64 st, .string r, u] 29)) := ⟨heap_alloc_new w _, (Below.refl _ w).alloc (Nat.le_refl _) _⟩
theorem HBq.next {m t : ByteArray} {mi st : Int} {r : ByteArray} {u : Value} {w wr w2 : World} (h : HBq m t mi st r u w wr) (hb : Below wr.heap.size wr w2) : HBq m t mi st r u w w2 := ⟨(hb.block _ (blk_lt h.box)).trans h.box, h.bel.trans (hb.mono h.bel.size)⟩
set_option maxRecDepth 100000 in
set_option maxHeartbeats 4000000 in
theorem hright22_any (m t : ByteArray) (mi st : Int) (r : ByteArray) (v : Value) (l : List Fld) (w : World) (hv : RdF w v l) (hl : l.length ≤ 10000) (hz : ∀ p ∈ l, FldSm p) (hm : m.size ≤ 100000) (ht : t.size ≤ 100000) (hr : r.size ≤ 100000) :
    Calls Tryz.prog 15 #[.agg #[.string m, .string t, .int .i64 mi, .int .i64 st, .string r, v]] w fun e w' => e = .returned (.bool (rightH m t mi st r l)) ∧ Below w.heap.size w w' := by
  have HV := Kp.mk hv
  have HZ := Kp.mk hz
  have HT := Kp.mk (fun w => oct_token_any m w (by unfold maxLen; omega))
  have HVI := Kp.mk (fun w => oct_visible_any t w (by unfold maxLen; omega))
  have HVA := Kp.mk (fun w => oct_value_any r w (by unfold maxLen; omega))
  have HR := Kp.mk (show rightH m t mi st r l = ((hAsk m t st r || hAns m t st r) && (hMi mi && !anyX l)) from rfl)
  have HA := Kp.mk (show hAsk m t st r = (tokenB m && (visibleB t && (decide (st = 0) && decide (r.size = 0)))) from rfl)
  have HN := Kp.mk (show hAns m t st r = (decide (m.size = 0) && (decide (t.size = 0) && (decide (100 ≤ st) && (decide (st ≤ 599) && allB valueB r)))) from rfl)
  have HM := Kp.mk (show hMi mi = (decide (mi = 0) || decide (mi = 1)) from rfl)
  have HEM := Kp.mk (emp_or22 m)
  have HET := Kp.mk (emp_or22 t)
  have HER := Kp.mk (emp_or22 r)
  obtain ⟨a, c, rfl, -, -, -⟩ := hv
  have HX := Kp.mk (HBq.new m t mi st r (.slice a l.length c) w)
  generalize rightH m t mi st r l = R at *
  generalize hAsk m t st r = A at *
  generalize hAns m t st r = B at *
  generalize hMi mi = C at *
  clear hz
  go_enter Tryz.func15, Tryz.ntmps15
  go_upto_region 1 with fail
  generalize w.alloc (.cells #[.string m, .string t, .int .i64 mi, .int .i64 st, .string r, .slice a l.length c] 29) = wa at *
  go_cut [3] (fun s3 wx => s3 = .bool A ∧ HBq m t mi st r (.slice a l.length c) w wx)
  case first =>
    clear HN HM HR HVA HZ HV HEM HET
    have c0 := blk_cell (i := 0) HX.out.box rfl
    go_wp2_with fail
    refine (HT.out _).mono ?_
    rintro e w1 ⟨rfl, hb1⟩
    have HX1 := Kp.mk (HX.out.next hb1)
    have c1 := blk_cell (i := 1) HX1.out.box rfl
    clear hb1 c0 HT
    cases hA : tokenB m
    · go_wp2_with fail
      go_meet
      exact ⟨by rw [HA.out, hA]; rfl, HX1.out⟩
    go_wp2_with fail
    refine (HVI.out _).mono ?_
    rintro e w2 ⟨rfl, hb2⟩
    have HX2 := Kp.mk (HX1.out.next hb2)
    have c3 := blk_cell (i := 3) HX2.out.box rfl
    have c4 := blk_cell (i := 4) HX2.out.box rfl
    clear hb2 c1 HVI HX1
    cases hB : visibleB t
    · go_wp2_with fail
      go_meet
      exact ⟨by rw [HA.out, hA, hB]; rfl, HX2.out⟩
    by_cases h3 : st = 0
    · have t3 : (st == 0) = true := by rw [beq_iff_eq]; exact h3
      rcases HER.out with ⟨hr0, h4⟩ | ⟨h4, h5, h6, h7⟩
      · have HQ := Kp.mk (show A = true by rw [HA.out, hA, hB, decide_eq_true h3, h4]; rfl)
        clear HA HER h4
        subst hr0
        subst h3
        go_wp2_with fail
        go_meet
        exact ⟨by rw [HQ.out], HX2.out⟩
      · have HQ := Kp.mk (show A = false by rw [HA.out, hA, hB, decide_eq_true h3, h4]; rfl)
        clear HA HER h4
        subst h3
        go_wp2_with fail
        go_meet
        exact ⟨by rw [HQ.out], HX2.out⟩
    · have t3 : (st == 0) = false := by rw [beq_eq_false_iff_ne]; exact h3
      have HQ := Kp.mk (show A = false by rw [HA.out, hA, hB, decide_eq_false h3]; rfl)
      clear HA HER
      go_wp2_with fail
      go_meet
      exact ⟨by rw [HQ.out], HX2.out⟩
  case rest =>
    obtain ⟨rfl, hx⟩ := hcut
    have HX1 := Kp.mk hx
    clear hx HA HX HT HVI
    go_upto_region 2 with fail
    go_cut [4] (fun s4 wx => s4 = .bool B ∧ HBq m t mi st r (.slice a l.length c) w wx)
    case first =>
      clear HM HR HZ HV HER
      have c0 := blk_cell (i := 0) HX1.out.box rfl
      have c1 := blk_cell (i := 1) HX1.out.box rfl
      have c3 := blk_cell (i := 3) HX1.out.box rfl
      have c4 := blk_cell (i := 4) HX1.out.box rfl
      rcases HEM.out with ⟨hm0, h4⟩ | ⟨h4, h5, h6, h7⟩
      · rcases HET.out with ⟨ht0, k4⟩ | ⟨k4, k5, k6, k7⟩
        · by_cases g1 : 100 ≤ st
          · have t1 : decide (100 ≤ st) = true := decide_eq_true g1
            by_cases g2 : st ≤ 599
            · have t2 : decide (st ≤ 599) = true := decide_eq_true g2
              have HQ := Kp.mk (show B = allB valueB r by rw [HN.out, h4, k4, t1, t2]; rfl)
              clear HN HEM HET h4 k4
              subst hm0
              subst ht0
              go_wp2_with fail
              refine (HVA.out _).mono ?_
              rintro e w2 ⟨rfl, hb2⟩
              have HX2 := Kp.mk (HX1.out.next hb2)
              clear hb2
              go_wp2_with fail
              go_meet
              exact ⟨by rw [HQ.out], HX2.out⟩
            · have t2 : decide (st ≤ 599) = false := decide_eq_false g2
              have HQ := Kp.mk (show B = false by rw [HN.out, h4, k4, t1, t2]; rfl)
              clear HN HEM HET h4 k4
              subst hm0
              subst ht0
              go_wp2_with fail
              go_meet
              exact ⟨by rw [HQ.out], HX1.out⟩
          · have t1 : decide (100 ≤ st) = false := decide_eq_false g1
            have HQ := Kp.mk (show B = false by rw [HN.out, h4, k4, t1]; rfl)
            clear HN HEM HET h4 k4
            subst hm0
            subst ht0
            go_wp2_with fail
            go_meet
            exact ⟨by rw [HQ.out], HX1.out⟩
        · have HQ := Kp.mk (show B = false by rw [HN.out, h4, k4]; rfl)
          clear HN HEM HET h4 k4
          subst hm0
          go_wp2_with fail
          go_meet
          exact ⟨by rw [HQ.out], HX1.out⟩
      · have HQ := Kp.mk (show B = false by rw [HN.out, h4]; rfl)
        clear HN HEM HET h4
        go_wp2_with fail
        go_meet
        exact ⟨by rw [HQ.out], HX1.out⟩
    case rest =>
      obtain ⟨rfl, hx⟩ := hcut
      have HX2 := Kp.mk hx
      clear hx HN HX1 HVA HEM HET HER
      have c2 := blk_cell (i := 2) HX2.out.box rfl
      have c5 := blk_cell (i := 5) HX2.out.box rfl
      have HCX := Kp.mk (fun (wr : World) (hb : Below w.heap.size w wr) => cox_any (.slice a l.length c) l wr (HV.out.below hb) HZ.out hl)
      cases hAB : (A || B)
      · have HQ := Kp.mk (show R = false by rw [HR.out, hAB]; rfl)
        clear HR
        rw [Bool.or_eq_false_iff] at hAB
        obtain ⟨rfl, rfl⟩ := hAB
        go_wp2_with fail
        go_ret
        exact ⟨by rw [HQ.out]; rfl, HX2.out.bel⟩
      · by_cases hmi : mi = 0 ∨ mi = 1
        · have HQ := Kp.mk (show R = !anyX l by
            rw [HR.out, hAB, HM.out]
            rcases hmi with rfl | rfl <;> simp)
          clear HR HM
          rw [Bool.or_eq_true] at hAB
          cases A
          · obtain rfl : B = true := by simpa using hAB
            rcases hmi with rfl | rfl
            all_goals
              go_wp2_with fail
              refine (HCX.out _ HX2.out.bel).mono ?_
              rintro e w3 ⟨rfl, hb3⟩
              go_wp2_with fail
              go_ret
              exact ⟨by rw [HQ.out]; rfl, HX2.out.bel.trans (hb3.mono HX2.out.bel.size)⟩
          · rcases hmi with rfl | rfl
            all_goals
              go_wp2_with fail
              refine (HCX.out _ HX2.out.bel).mono ?_
              rintro e w3 ⟨rfl, hb3⟩
              go_wp2_with fail
              go_ret
              exact ⟨by rw [HQ.out]; rfl, HX2.out.bel.trans (hb3.mono HX2.out.bel.size)⟩
        · have HQ := Kp.mk (show R = false by
            rw [HR.out, HM.out, decide_eq_false (show ¬ mi = 0 by omega), decide_eq_false (show ¬ mi = 1 by omega)]
            simp)
          have t1 : (mi == 0) = false := by rw [beq_eq_false_iff_ne]; omega
          have t2 : (mi == 1) = false := by rw [beq_eq_false_iff_ne]; omega
          clear HR HM
          rw [Bool.or_eq_true] at hAB
          cases A
          · obtain rfl : B = true := by simpa using hAB
            go_wp2_with fail
            go_ret
            exact ⟨by rw [HQ.out]; rfl, HX2.out.bel⟩
          · go_wp2_with fail
            go_ret
            exact ⟨by rw [HQ.out]; rfl, HX2.out.bel⟩
end Go.Proofs.YtcbfhlnnfnpkdaaGreatDoor
