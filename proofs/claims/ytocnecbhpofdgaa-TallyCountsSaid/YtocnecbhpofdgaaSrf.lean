/- A stable sort at abutment/tally.Row: one element behind a sorted stretch (bin/mkssc.py). -/
import Derived.Test.YtocnecbhpofdgaaSre
namespace Go.Proofs.Ytocnecbhpofdgaa
open Go.RowKit Go.Shelf Go.Lib Go.Sort
set_option linter.unusedVariables false
set_option linter.unusedSimpArgs false


set_option maxRecDepth 100000 in
set_option maxHeartbeats 4000000 in
theorem ss_oneBSrw (cf : Srw → Srw → Int) (hw : Swo (ltOf cf)) (hC : CmpTSrw cf) (blk cap : Nat) (P A Q : List Srw) (y : Srw) (d0 d : Array Srw) (w0 w : World) (R : RwSrw w0 blk d0) (hs : d.size = d0.size) (S : SWSrw w0 blk d w)
    (hd : d.toList = P ++ (A ++ ([y] ++ Q))) (hA : Srt (ltOf cf) A) (hA2 : 2 ≤ A.length) (hsz : d.size ≤ 1000000) (a m b : Nat) (ha : a = P.length) (hm : m = P.length + A.length) (hb : b = P.length + A.length + 1) :
    Calls Try.prog 88 #[.slice (some ⟨blk, 0, none⟩) d.size cap, .int .i64 a, .int .i64 m, .int .i64 b, .func (.func 61) #[] #[]] w fun e w' => e = .returned (.tuple #[]) ∧ ∃ d', SWSrw w0 blk d' w' ∧ d'.size = d.size ∧ d'.toList = P ++ (mrg (ltOf cf) A [y] ++ Q) := by
  have mixed : Try.prog.follows .mixedOrders = true := by kernel_rfl
  have HR := Kp.mk R
  have HS0 := Kp.mk hs
  have HS := Kp.mk S
  have HD := Kp.mk hd
  have HBS := Kp.mk hA
  have HWO := Kp.mk hw
  have HC := Kp.mk hC
  have hdl := arr_size hd
  simp only [List.length_append, List.length_cons, List.length_nil] at hdl
  have HAM := Kp.mk (show a = P.length ∧ m = P.length + A.length ∧ b = P.length + A.length + 1 from ⟨ha, hm, hb⟩)
  have HX := Kp.mk (show d[m]! = y from arr_get (A := P ++ A) (R := Q) (by rw [hd]; simp) (by rw [hm]; simp))
  have HBT := Kp.mk (fun t ht => arr_atSrw (d := d) (P := P) (A := A) (Q := [y] ++ Q) hd t ht)
  have hmd : m < d.size := by omega
  have HMA := Kp.mk (show m = a + A.length by omega)
  have t0 : ((m : Int) - (a : Int) == 1) = false := by simp; omega
  have t00 : ¬ (m : Int) - (a : Int) = 1 := by omega
  have tb : (b : Int) - (m : Int) = 1 := by omega
  have hma : a ≤ m := by omega
  clear R S hd hA hw hC hs ha hm hb hdl
  go_enter Try.func88, Try.ntmps88
  go_wp2_with fail
  go_loopw [14, 15] (fun i j wr => ∃ (p q : Nat), i = .int .i64 p ∧ j = .int .i64 q ∧ a ≤ p ∧ p ≤ q ∧ q ≤ m ∧ Kp (LoB (ltOf cf) A y (p - a)) ∧ Kp (HiB (ltOf cf) A y (q - a)) ∧ Kp (SWSrw w0 blk d wr)) (fun i j _ => (intOf j).toNat - (intOf i).toNat)
  case atStart => exact ⟨a, m, rfl, rfl, Nat.le_refl _, hma, Nat.le_refl _, ⟨by rw [Nat.sub_self]; exact loB_0 _ _⟩, ⟨by rw [show m - a = A.length by have := HMA.out; omega]; exact hiB_end _ _⟩, HS⟩
  case round =>
    obtain ⟨p, q, rfl, rfl, h1, h2, h3, HL, HH, HW⟩ := hrel
    by_cases hlt : p < q
    · have t1 : decide ((p : Int) < (q : Int)) = true := decide_eq_true (by omega)
      obtain ⟨h, hh⟩ : ∃ h, h = (p + q) / 2 := ⟨_, rfl⟩
      have hmid : ((p : Int) + (q : Int)) / 2 = (h : Int) := by omega
      have hph : p ≤ h := by omega
      have hhq : h < q := by omega
      have HB1 := Kp.mk (show A[h - a]? = some d[h]! from by
        have h8 := HBT.out (h - a) (by have := HMA.out; omega)
        have h9 := HAM.out
        rw [h8, show P.length + (h - a) = h by omega])
      have G1 := SWSrw.gat HW.out HR.out HS0.out h (by omega)
      have G2 := SWSrw.gat HW.out HR.out HS0.out m (by omega)
      rw [HX.out] at G2
      generalize d[h]! = z at *
      have gc0 : ∀ n os, (grow (wr.drewN n) os).cell? ⟨blk, h * 2, none⟩ = some (.string z.1) := fun n os => by have := (G1 n os).c0; rwa [Nat.zero_add] at this
      have gc1 : ∀ n os, (grow (wr.drewN n) os).cell? ⟨blk, h * 2 + 1, none⟩ = some (.int .i64 z.2) := fun n os => by have := (G1 n os).c1; rwa [Nat.zero_add] at this
      have gc2 : ∀ n os, (grow (wr.drewN n) os).cell? ⟨blk, m * 2, none⟩ = some (.string y.1) := fun n os => by have := (G2 n os).c0; rwa [Nat.zero_add] at this
      have gc3 : ∀ n os, (grow (wr.drewN n) os).cell? ⟨blk, m * 2 + 1, none⟩ = some (.int .i64 y.2) := fun n os => by have := (G2 n os).c1; rwa [Nat.zero_add] at this
      have r1 : (h : Int) < (d.size : Int) := by omega
      have r2 : (m : Int) < (d.size : Int) := by omega
      have HSG := Kp.mk (fun n os => SWK.grown HW.out n os)
      clear G1 G2 HW hh
      by_cases hl : cf y z < 0
      · have t2 : decide (cf y z < 0) = true := decide_eq_true hl
        have HN := Kp.mk (HiB.step HWO.out HBS.out HB1.out (show ltOf cf y z = true from t2))
        go_wp2_with fail
        go_quiet_grown (first | (go_at_call 61; refine Calls.grown_of (HC.out.at _ _ _ _ _)))
        go_wp2_with fail
        go_roundw
        case rel => exact ⟨p, h, rfl, by go_num, h1, by omega, by omega, HL, HN, ⟨HSG.out _ _⟩⟩
        case measure => simp [intOf]; omega
      · have t2 : decide (cf y z < 0) = false := decide_eq_false hl
        have HN := Kp.mk (LoB.step HWO.out HBS.out HB1.out (show ltOf cf y z = false from t2))
        go_wp2_with fail
        go_quiet_grown (first | (go_at_call 61; refine Calls.grown_of (HC.out.at _ _ _ _ _)))
        go_wp2_with fail
        go_roundw
        case rel => exact ⟨h + 1, q, by go_num, rfl, by omega, by omega, h3, ⟨by rw [show h + 1 - a = h - a + 1 by omega]; exact HN.out⟩, HH, ⟨HSG.out _ _⟩⟩
        case measure => simp [intOf]; omega
    · obtain rfl : p = q := by omega
      have HFI := Kp.mk (mrg_oneB HL.out HH.out)
      obtain ⟨A1, A2, HA1, HA2⟩ : ∃ A1 A2, Kp (A1 = A.take (p - a)) ∧ Kp (A2 = A.drop (p - a)) := ⟨_, _, ⟨rfl⟩, ⟨rfl⟩⟩
      have HLN := Kp.mk (show A1.length = p - a ∧ A2.length = m - p by rw [HA1.out, HA2.out, List.length_take, List.length_drop]; have := HMA.out; omega)
      have HAA := Kp.mk (show A = A1 ++ A2 by rw [HA1.out, HA2.out, List.take_append_drop])
      rw [← HA1.out, ← HA2.out] at HFI
      go_wp2_with fail
      go_loopw [17] (fun i wr2 => ∃ (k : Nat) (dk : Array Srw), i = .int .i64 k ∧ p ≤ k ∧ k ≤ m ∧ Kp (SWSrw w0 blk dk wr2) ∧ Kp (dk.size = d.size) ∧ Kp (dk.toList = P ++ (A1 ++ (A2.take (k - p) ++ y :: (A2.drop (k - p) ++ Q))))) (fun i _ => (intOf i).toNat)
      case atStart => exact ⟨m, d, rfl, h3, Nat.le_refl _, HW, ⟨rfl⟩, ⟨by rw [HD.out, HAA.out, List.take_of_length_le (by rw [HLN.out.2]; omega), List.drop_of_length_le (by rw [HLN.out.2]; omega)]; simp⟩⟩
      case round =>
        obtain ⟨k, dk, rfl, g1, g2, HW2, HZ, HT⟩ := hrel
        by_cases hkl : p < k
        · obtain ⟨k1, rfl⟩ : ∃ k1, k = k1 + 1 := ⟨k - 1, by omega⟩
          have t3 : decide ((p : Int) < (k1 : Int) + 1) = true := decide_eq_true (by omega)
          have hkb : k1 - p < A2.length := by rw [HLN.out.2]; omega
          have HTL := Kp.mk (show dk.toList = (P ++ (A1 ++ A2.take (k1 - p))) ++ A2[k1 - p] :: ([] ++ y :: (A2.drop (k1 - p + 1) ++ Q)) by
            rw [HT.out, show k1 + 1 - p = k1 - p + 1 by omega, List.take_succ_eq_append_getElem hkb]
            simp only [List.append_assoc, List.cons_append, List.nil_append])
          have HLK := Kp.mk (show (P ++ (A1 ++ A2.take (k1 - p))).length = k1 by rw [List.length_append, List.length_append, List.length_take, HLN.out.1]; have := HAM.out; omega)
          have HSP := Kp.mk (swp_list2 (i := k1) (j := k1 + 1) HTL.out HLK.out.symm (by rw [HLK.out]; simp))
          have HNX := Kp.mk (show (P ++ (A1 ++ A2.take (k1 - p))) ++ y :: ([] ++ A2[k1 - p] :: (A2.drop (k1 - p + 1) ++ Q)) = P ++ (A1 ++ (A2.take (k1 - p) ++ y :: (A2.drop (k1 - p) ++ Q))) by
            rw [List.drop_eq_getElem_cons hkb]
            simp only [List.append_assoc, List.cons_append, List.nil_append])
          have hdz := HZ.out
          obtain ⟨cx0, cx1, fx0, fx1⟩ := SWSrw.at HW2.out HR.out (HZ.out.trans HS0.out) (k1 + 1) (by omega)
          obtain ⟨cy0, cy1, fy0, fy1⟩ := SWSrw.at HW2.out HR.out (HZ.out.trans HS0.out) k1 (by omega)
          have HSW := Kp.mk (SWK.swapped HW2.out HR.out (k1 + 1) k1 (by omega) (by omega))
          generalize dk[k1]! = xk at *
          generalize dk[k1 + 1]! = yk at *
          simp only [Nat.zero_add] at cx0 cx1 fx0 fx1 cy0 cy1 fy0 fy1
          have q0 : (0 : Int) ≤ (k1 : Int) + 1 := by omega
          have q1 : (k1 : Int) < (d.size : Int) := by omega
          have q3 : (k1 : Int) + 1 < (d.size : Int) := by omega
          have eb : ((k1 : Int) + 1).toNat = k1 + 1 := by omega
          have es : (k1 : Int) + 1 - 1 = (k1 : Int) := by omega
          obtain ⟨k2, hk2⟩ : ∃ k2, k2 = k1 + 1 := ⟨_, rfl⟩
          rw [← hk2] at eb cx0 cx1 fx0 fx1
          have HK2 := Kp.mk hk2
          have ne : ¬ k2 * 2 = k1 * 2 := by omega
          have ne2 : ¬ k2 * 2 = k1 * 2 + 1 := by omega
          have ne3 : ¬ k2 * 2 + 1 = k1 * 2 := by omega
          have ne4 : ¬ k1 * 2 = k2 * 2 := by omega
          have ne5 : ¬ k1 * 2 = k2 * 2 + 1 := by omega
          have ne6 : ¬ k1 * 2 + 1 = k2 * 2 := by omega
          clear hdz hk2 HW2
          go_wp2_with fail
          go_region
          go_wp2_with fail
          go_roundw
          case rel =>
            refine ⟨k1, swp dk (k1 + 1) k1, by go_num, by omega, by omega, ⟨?_⟩, ⟨(swp_szS _ _ _).trans HZ.out⟩, ⟨by rw [HSP.out, HNX.out]⟩⟩
            have h := HSW.out
            simp only [Nat.zero_add] at h
            rw [HK2.out]
            exact h
          case measure => first | (simp [intOf]; done) | (simp [intOf]; omega)
        · obtain rfl : k = p := by omega
          go_wp2_with fail
          refine bodyPost_ret (results_none rfl _ _ _) rfl ?_
          refine ⟨rfl, dk, HW2.out, HZ.out, ?_⟩
          rw [HT.out, HFI.out, Nat.sub_self]
          simp
end Go.Proofs.Ytocnecbhpofdgaa
