/- How lists of lines differ (layer 51): the document's Long and Lines. -/
import Derived.Test.YtnpolkpofaamlaaDic
namespace Go.Proofs.Ytnpolkpofaamlaa
open Go.RowKit
set_option linter.unusedVariables false
set_option linter.unusedSimpArgs false

theorem Try.infoId : (Try.prog.info? 3).map (fun i => (i.zero, i.size, i.bytes)) = some (some (.int .i64 0), 1, 8) := by kernel_rfl
def i64V (V : Nat → Nat) (x : Nat) : Value := .int .i64 (V x : Nat)
def nxV (a b : Ln) (i k : Nat) (x : Nat) : Nat := if x ≤ k then lcP a b (i + 1) x else 0
theorem nxV_in {a b : Ln} {i k x : Nat} (h : x ≤ k) : nxV a b i k x = lcP a b (i + 1) x := if_pos h
theorem nxV_out {a b : Ln} {i k x : Nat} (h : ¬ x ≤ k) : nxV a b i k x = 0 := if_neg h
theorem nxV_zero (a b : Ln) (i x : Nat) : i64V (nxV a b i 0) x = .int .i64 0 := by
  unfold i64V
  by_cases e : x ≤ 0
  · obtain rfl : x = 0 := by omega
    rw [nxV_in e, lcP_zero_r]; rfl
  · rw [nxV_out e]; rfl
theorem nxV_set {a b : Ln} {i k : Nat} {v : Int} (e : v = ((lcP a b (i + 1) (k + 1) : Nat) : Int)) (x : Nat) : (if x = k + 1 then Value.int .i64 v else i64V (nxV a b i k) x) = i64V (nxV a b i (k + 1)) x := by
  unfold i64V
  by_cases e1 : x = k + 1
  · subst e1
    rw [if_pos rfl, nxV_in (Nat.le_refl _), e]
  · rw [if_neg e1]
    by_cases e2 : x ≤ k
    · rw [nxV_in e2, nxV_in (by omega)]
    · rw [nxV_out e2, nxV_out (by omega)]
theorem lcP_le2 (a b : Ln) (i k : Nat) (h : a.length ≤ 100) : lcP a b i k ≤ 100 := Nat.le_trans (lcP_le a b i k) h
set_option maxRecDepth 100000 in
set_option maxHeartbeats 1000000 in
theorem rlong_any (va vb : Value) (a b : Ln) (w : World) (ha : RdS w va a) (hb : RdS w vb b) (hla : a.length ≤ 100) (hlb : b.length ≤ 100) :
    Calls Try.prog 94 #[va, vb] w fun e w' => e = .returned (.int .i64 (lcs a b : Nat)) ∧ Below w.heap.size w w' := by
  have HA := Kp.mk ha
  have HB := Kp.mk hb
  have HAL := Kp.mk (lcP_all a b)
  have HZL := Kp.mk (fun k => lcP_zero_l a b k)
  have HZR := Kp.mk (fun i => lcP_zero_r a b i)
  have HLE := Kp.mk (fun i k => lcP_le2 a b i k hla)
  obtain ⟨aa, ca, rfl, _, _, -⟩ := ha
  obtain ⟨ab, cb, rfl, _, _, -⟩ := hb
  generalize hn : a.length = n at *
  generalize hm : b.length = m at *
  generalize lcs a b = Z at *
  have HN := Kp.mk hn
  have HM := Kp.mk hm
  have mk1 := fun w => run_make_row' (P := Try.prog) 38 3 (.int .i64 0) 8 Try.underlying38 Try.infoId rfl .i64 .i64 (m + 1) (by omega) (by omega) w
  rw [show ((m + 1 : Nat) : Int) = (m : Int) + 1 from rfl] at mk1
  have HF0 := Kp.mk (FB.made (n := m + 1) (t := 3) (z := .int .i64 0) w)
  have HB0 := Kp.mk ((Below.refl w.heap.size w).alloc (Nat.le_refl _) (.cells (madeCells #[.int .i64 0] (m + 1)) 3))
  clear hn hm
  go_enter Try.func94, Try.ntmps94
  go_wp2_with fail
  go_loopw [5, 6] (fun rv iv wr => ∃ i g : Nat, i ≤ n ∧ iv = .int .i64 i ∧ rv = .slice (some ⟨g, 0, none⟩) (m + 1) (m + 1) ∧ FB g (m + 1) 3 (i64V (lcP a b i)) wr ∧ Below w.heap.size w wr ∧ w.heap.size ≤ g) (fun _ iv _ => n - (intOf iv).toNat)
  case atStart => exact ⟨0, w.heap.size, Nat.zero_le _, rfl, rfl, HF0.out.cong fun k _ => by unfold i64V; rw [HZL.out]; rfl, HB0.out, Nat.le_refl _⟩
  case round =>
    obtain ⟨i, g, hi, rfl, rfl, hf, hb, hg⟩ := hrel
    have HF := Kp.mk hf
    have HBO := Kp.mk hb
    have HG := Kp.mk hg
    clear hf hb hg HF0 HB0
    obtain ⟨wo, rfl⟩ : ∃ wo, wo = wr := ⟨_, rfl⟩
    by_cases hlt : i < n
    · have q1 : (i : Int) < (n : Int) := by omega
      have hA := (Below.refl wo.heap.size wo).alloc (Nat.le_refl _) (.cells (madeCells #[.int .i64 0] (m + 1)) 3)
      have HF1 := Kp.mk (HF.out.below hA HF.out.lt)
      have HX0 := Kp.mk (FB.made (n := m + 1) (t := 3) (z := .int .i64 0) wo)
      have HB1 := Kp.mk (HBO.out.alloc HBO.out.size (.cells (madeCells #[.int .i64 0] (m + 1)) 3))
      have hgl := HF.out.lt
      have HWS := Kp.mk HBO.out.size
      have hia : i < a.length := by have := HN.out; omega
      clear hA
      go_wp2_with fail
      go_loopw [8] (fun kv wr2 => ∃ k : Nat, k ≤ m ∧ kv = .int .i64 k ∧ FB g (m + 1) 3 (i64V (lcP a b i)) wr2 ∧ FB wo.heap.size (m + 1) 3 (i64V (nxV a b i k)) wr2 ∧ Below w.heap.size w wr2) (fun kv _ => m - (intOf kv).toNat)
      case atStart => exact ⟨0, Nat.zero_le _, rfl, HF1.out, HX0.out.cong fun x _ => (nxV_zero a b i x).symm, HB1.out⟩
      case round =>
        obtain ⟨k, hk, rfl, hf, hx, hb⟩ := hrel
        have HF2 := Kp.mk hf
        have HX := Kp.mk hx
        have HB2 := Kp.mk hb
        clear hf hx hb
        by_cases hkl : k < m
        · have hkb : k < b.length := by have := HM.out; omega
          obtain ⟨ga, oa, rfl, hgl1, da⟩ := rds_cells (HA.out.below HB2.out) (by omega)
          obtain ⟨gb, ob, rfl, hgl2, db⟩ := rds_cells (HB.out.below HB2.out) (by omega)
          have ca1 := da i hia
          have cb1 := db k hkb
          have HST := Kp.mk (lcP_step hia hkb)
          have q2 : (k : Int) < (m : Int) := by omega
          have c0 := HF2.out.cell (k := k) (by omega)
          have c1 := HF2.out.cell (k := k + 1) (by omega)
          have x0 := HX.out.cell (k := k) (by omega)
          have x1 := HX.out.cell (k := k + 1) (by omega)
          have z1 := HX.out.free (k + 1)
          have HSE := Kp.mk (fun v => HX.out.set (k := k + 1) (by omega) v)
          have b0 := HLE.out i k
          have b1 := HLE.out i (k + 1)
          have b2 := HLE.out (i + 1) k
          unfold i64V at c0 c1 x0 x1
          rw [nxV_in (Nat.le_refl _)] at x0
          rw [nxV_out (by omega)] at x1
          have HNX := Kp.mk (fun (v : Int) (wz : World) (e : v = ((lcP a b (i + 1) (k + 1) : Nat) : Int)) (h : FB wo.heap.size (m + 1) 3 (fun x => if x = k + 1 then .int .i64 v else i64V (nxV a b i k) x) wz) => h.cong (R' := i64V (nxV a b i (k + 1))) fun x _ => nxV_set e x)
          have hne : g ≠ wo.heap.size := by omega
          clear da db
          generalize lcP a b i k = y0 at *
          generalize lcP a b i (k + 1) = y1 at *
          generalize lcP a b (i + 1) k = y2 at *
          generalize lcP a b (i + 1) (k + 1) = y3 at *
          generalize a[i] = s at *
          generalize b[k] = u at *
          by_cases he : s = u
          · subst he
            have he2 : (s.toList == s.toList) = true := by simp
            have hx : y0 + 1 = y3 := (HST.out.trans (if_pos rfl)).symm
            have HNX2 := Kp.mk (fun wz => HNX.out ((y0 : Int) + 1) wz (by omega))
            clear hx HST
            go_upto_region 9 with fail
            go_quiet (fail)
            go_wp2_with fail
            go_roundw
            case rel => exact ⟨k + 1, by omega, by go_num, (HF2.out.other (g' := wo.heap.size) (o := k + 1) _ hne).kept rfl, (HNX2.out _ (HSE.out _)).kept rfl, bel_heap (HB2.out.setCell (p := ⟨wo.heap.size, k + 1, none⟩) HWS.out _) rfl rfl rfl rfl⟩
            case measure => simp [intOf] <;> omega
          · have he2 := ba_tlb he
            have hx : (if y1 < y2 then (y2 : Int) else (y1 : Int)) = (y3 : Int) := by rw [HST.out, if_neg he, Nat.max_def]; split <;> split <;> omega
            have HNX2 := Kp.mk (fun wz => HNX.out (if y1 < y2 then (y2 : Int) else (y1 : Int)) wz hx)
            clear hx HST
            go_upto_region 9 with fail
            go_quiet (fail)
            go_upto_region 11 with fail
            go_region
            all_goals
              go_wp2_with fail
              go_roundw
              case rel => exact ⟨k + 1, by omega, by go_num, (HF2.out.other (g' := wo.heap.size) (o := k + 1) _ hne).kept rfl, (HNX2.out _ (HSE.out _)).kept rfl, bel_heap (HB2.out.setCell (p := ⟨wo.heap.size, k + 1, none⟩) HWS.out _) rfl rfl rfl rfl⟩
              case measure => simp [intOf] <;> omega
        · have hkm : k = m := by omega
          subst hkm
          have HX2 := Kp.mk (HX.out.cong (R' := i64V (lcP a b (i + 1))) fun x hx => (show i64V (nxV a b i k) x = i64V (lcP a b (i + 1)) x by unfold i64V; rw [nxV_in (by omega)]))
          go_wp2_with fail
          go_roundw
          case rel => exact ⟨i + 1, wo.heap.size, by omega, by go_num, rfl, HX2.out, HB2.out, HWS.out⟩
          case measure => simp [intOf] <;> omega
    · have hin : i = n := by omega
      subst hin
      have c0 := HF.out.cell (k := m) (by omega)
      unfold i64V at c0
      rw [HAL.out] at c0
      go_wp2_with fail
      go_ret
      exact ⟨rfl, HBO.out⟩
end Go.Proofs.Ytnpolkpofaamlaa
