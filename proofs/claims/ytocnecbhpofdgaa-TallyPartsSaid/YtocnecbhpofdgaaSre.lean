/- A stable sort at abutment/tally.Row: two sorted stretches are merged (bin/mkssc.py). -/
import Derived.Test.YtocnecbhpofdgaaSrc
import Derived.Test.YtocnecbhpofdgaaSsd
import Derived.Shelf.SlSortCmp.QuietGrown
import Derived.BigQuiet
namespace Go.Proofs.Ytocnecbhpofdgaa
open Go.RowKit Go.Shelf Go.Lib Go.Sort
set_option linter.unusedVariables false
set_option linter.unusedSimpArgs false


/-- What a comparison does: it tells, and may make blocks of its own. -/
def CmpTSrw (cf : Srw → Srw → Int) : Prop := ∀ (x y : Srw) (w : World), Calls Try.prog 61 #[.agg #[.string x.1, .int .i64 x.2], .agg #[.string y.1, .int .i64 y.2]] w fun e w' => e = .returned (.int .i64 (cf x y)) ∧ ∃ q os, w' = grow (w.drewN q) os
theorem CmpTSrw.at {cf : Srw → Srw → Int} (h : CmpTSrw cf) (x y : Srw) (w : World) (n : Nat) (os : Array Obj) : Calls Try.prog 61 #[.agg #[.string x.1, .int .i64 x.2], .agg #[.string y.1, .int .i64 y.2]] (grow (w.drewN n) os) fun e w' => e = .returned (.int .i64 (cf x y)) ∧ ∃ q os', w' = grow ((grow (w.drewN n) os).drewN q) os' := h x y _
theorem SWSrw.gat {w0 w : World} {blk : Nat} {d d0 : Array Srw} (S : SWSrw w0 blk d w) (R : RwSrw w0 blk d0) (hs : d.size = d0.size) (i : Nat) (hi : i < d.size) : ∀ n os, AtSrw (grow (w.drewN n) os) blk i d[i]! :=
  fun n os => SWSrw.at (SWK.grown S n os) R hs i hi
theorem arr_atSrw {d : Array Srw} {P A Q : List Srw} (h : d.toList = P ++ (A ++ Q)) (t : Nat) (ht : t < A.length) : A[t]? = some d[P.length + t]! := by
  have e : A = A.take t ++ A[t] :: A.drop (t + 1) := by rw [List.getElem_cons_drop, List.take_append_drop]
  have h1 : d.toList = (P ++ A.take t) ++ A[t] :: (A.drop (t + 1) ++ Q) := by
    have h2 : P ++ (A ++ Q) = P ++ ((A.take t ++ A[t] :: A.drop (t + 1)) ++ Q) := by rw [← e]
    rw [h, h2]
    simp only [List.append_assoc, List.cons_append]
  rw [arr_get h1 (by simp; omega), List.getElem?_eq_getElem ht]
set_option maxRecDepth 100000 in
set_option maxHeartbeats 4000000 in
theorem ss_oneASrw (cf : Srw → Srw → Int) (hw : Swo (ltOf cf)) (hC : CmpTSrw cf) (blk cap : Nat) (P B Q : List Srw) (x : Srw) (d0 d : Array Srw) (w0 w : World) (R : RwSrw w0 blk d0) (hs : d.size = d0.size) (S : SWSrw w0 blk d w)
    (hd : d.toList = P ++ ([x] ++ (B ++ Q))) (hB : Srt (ltOf cf) B) (hsz : d.size ≤ 1000000) (a m b : Nat) (ha : a = P.length) (hm : m = P.length + 1) (hb : b = P.length + 1 + B.length) :
    Calls Try.prog 88 #[.slice (some ⟨blk, 0, none⟩) d.size cap, .int .i64 a, .int .i64 m, .int .i64 b, .func (.func 61) #[] #[]] w fun e w' => e = .returned (.tuple #[]) ∧ ∃ d', SWSrw w0 blk d' w' ∧ d'.size = d.size ∧ d'.toList = P ++ (mrg (ltOf cf) [x] B ++ Q) := by
  have mixed : Try.prog.follows .mixedOrders = true := by kernel_rfl
  have HR := Kp.mk R
  have HS0 := Kp.mk hs
  have HS := Kp.mk S
  have HD := Kp.mk hd
  have HBS := Kp.mk hB
  have HWO := Kp.mk hw
  have HC := Kp.mk hC
  have hdl := arr_size hd
  simp only [List.length_append, List.length_cons, List.length_nil] at hdl
  have HAM := Kp.mk (show a = P.length ∧ m = P.length + 1 ∧ b = P.length + 1 + B.length from ⟨ha, hm, hb⟩)
  have HX := Kp.mk (show d[a]! = x from arr_get (A := P) (R := B ++ Q) (by rw [hd]; simp) ha)
  have HBT := Kp.mk (fun t ht => arr_atSrw (d := d) (P := P ++ [x]) (A := B) (Q := Q) (by rw [hd]; simp) t ht)
  have hbm : b = m + B.length := by omega
  have had : a < d.size := by omega
  have hbd : b ≤ d.size := by omega
  have hma : m = a + 1 := by omega
  have HMA := Kp.mk hma
  have HBM := Kp.mk hbm
  have t0 : (m : Int) - (a : Int) = 1 := by omega
  clear R S hd hB hw hC hs ha hm hb hdl hbm hma
  go_enter Try.func88, Try.ntmps88
  go_wp2_with fail
  go_loopw [10, 11] (fun i j wr => ∃ (p q : Nat), i = .int .i64 p ∧ j = .int .i64 q ∧ m ≤ p ∧ p ≤ q ∧ q ≤ b ∧ Kp (LoA (ltOf cf) B x (p - m)) ∧ Kp (HiA (ltOf cf) B x (q - m)) ∧ Kp (SWSrw w0 blk d wr)) (fun i j _ => (intOf j).toNat - (intOf i).toNat)
  case atStart => exact ⟨m, b, rfl, rfl, Nat.le_refl _, by have := HBM.out; omega, Nat.le_refl _, ⟨by rw [Nat.sub_self]; exact loA_0 _ _⟩, ⟨by rw [show b - m = B.length by have := HBM.out; omega]; exact hiA_end _ _⟩, HS⟩
  case round =>
    obtain ⟨p, q, rfl, rfl, h1, h2, h3, HL, HH, HW⟩ := hrel
    by_cases hlt : p < q
    · have t1 : decide ((p : Int) < (q : Int)) = true := decide_eq_true (by omega)
      obtain ⟨h, hh⟩ : ∃ h, h = (p + q) / 2 := ⟨_, rfl⟩
      have hmid : ((p : Int) + (q : Int)) / 2 = (h : Int) := by omega
      have hph : p ≤ h := by omega
      have hhq : h < q := by omega
      have HB1 := Kp.mk (show B[h - m]? = some d[h]! from by
        have h8 := HBT.out (h - m) (by have := HBM.out; omega)
        have h9 := HAM.out
        simp only [List.length_append, List.length_cons, List.length_nil] at h8
        rw [h8, show P.length + (0 + 1) + (h - m) = h by omega])
      have G1 := SWSrw.gat HW.out HR.out HS0.out h (by omega)
      have G2 := SWSrw.gat HW.out HR.out HS0.out a (by omega)
      rw [HX.out] at G2
      generalize d[h]! = z at *
      have gc0 : ∀ n os, (grow (wr.drewN n) os).cell? ⟨blk, h * 2, none⟩ = some (.string z.1) := fun n os => by have := (G1 n os).c0; rwa [Nat.zero_add] at this
      have gc1 : ∀ n os, (grow (wr.drewN n) os).cell? ⟨blk, h * 2 + 1, none⟩ = some (.int .i64 z.2) := fun n os => by have := (G1 n os).c1; rwa [Nat.zero_add] at this
      have gc2 : ∀ n os, (grow (wr.drewN n) os).cell? ⟨blk, a * 2, none⟩ = some (.string x.1) := fun n os => by have := (G2 n os).c0; rwa [Nat.zero_add] at this
      have gc3 : ∀ n os, (grow (wr.drewN n) os).cell? ⟨blk, a * 2 + 1, none⟩ = some (.int .i64 x.2) := fun n os => by have := (G2 n os).c1; rwa [Nat.zero_add] at this
      have r1 : (h : Int) < (d.size : Int) := by omega
      have r2 : (a : Int) < (d.size : Int) := by omega
      have HSG := Kp.mk (fun n os => SWK.grown HW.out n os)
      clear G1 G2 HW hh
      by_cases hl : cf z x < 0
      · have t2 : decide (cf z x < 0) = true := decide_eq_true hl
        have HN := Kp.mk (LoA.step HWO.out HBS.out HB1.out (show ltOf cf z x = true from t2))
        go_wp2_with fail
        go_quiet_grown (first | (go_at_call 61; refine Calls.grown_of (HC.out.at _ _ _ _ _)))
        go_wp2_with fail
        go_roundw
        case rel => exact ⟨h + 1, q, by go_num, rfl, by omega, by omega, h3, ⟨by rw [show h + 1 - m = h - m + 1 by omega]; exact HN.out⟩, HH, ⟨HSG.out _ _⟩⟩
        case measure => simp [intOf]; omega
      · have t2 : decide (cf z x < 0) = false := decide_eq_false hl
        have HN := Kp.mk (HiA.step HWO.out HBS.out HB1.out (show ltOf cf z x = false from t2))
        go_wp2_with fail
        go_quiet_grown (first | (go_at_call 61; refine Calls.grown_of (HC.out.at _ _ _ _ _)))
        go_wp2_with fail
        go_roundw
        case rel => exact ⟨p, h, rfl, by go_num, h1, by omega, by omega, HL, HN, ⟨HSG.out _ _⟩⟩
        case measure => simp [intOf]; omega
    · obtain rfl : p = q := by omega
      have HFI := Kp.mk (mrg_oneA HL.out HH.out)
      have hpa : a + 1 ≤ p := by have := HMA.out; omega
      have HPM := Kp.mk (show p - m = p - 1 - a by have := HMA.out; omega)
      go_wp2_with fail
      go_loopw [13] (fun i wr2 => ∃ (k : Nat) (dk : Array Srw), i = .int .i64 k ∧ a ≤ k ∧ k ≤ p - 1 ∧ Kp (SWSrw w0 blk dk wr2) ∧ Kp (dk.size = d.size) ∧ Kp (dk.toList = P ++ (B.take (k - a) ++ x :: (B.drop (k - a) ++ Q)))) (fun i _ => p - (intOf i).toNat)
      case atStart => exact ⟨a, d, rfl, Nat.le_refl _, by omega, HW, ⟨rfl⟩, ⟨by rw [HD.out, Nat.sub_self]; simp⟩⟩
      case round =>
        obtain ⟨k, dk, rfl, g1, g2, HW2, HZ, HT⟩ := hrel
        by_cases hkl : k < p - 1
        · have t3 : decide ((k : Int) < (p : Int) - 1) = true := decide_eq_true (by omega)
          have hkb : k - a < B.length := by have := HBM.out; have := HMA.out; omega
          have HTL := Kp.mk (show dk.toList = (P ++ B.take (k - a)) ++ x :: ([] ++ B[k - a] :: (B.drop (k - a + 1) ++ Q)) by
            rw [HT.out, List.drop_eq_getElem_cons hkb]
            simp only [List.append_assoc, List.cons_append, List.nil_append])
          have HLN := Kp.mk (show (P ++ B.take (k - a)).length = k by rw [List.length_append, List.length_take]; have := HAM.out; omega)
          have HSP := Kp.mk (swp_list (i := k) (j := k + 1) HTL.out HLN.out.symm (by rw [HLN.out]; simp))
          have HNX := Kp.mk (show (P ++ B.take (k - a)) ++ B[k - a] :: ([] ++ x :: (B.drop (k - a + 1) ++ Q)) = P ++ (B.take (k + 1 - a) ++ x :: (B.drop (k + 1 - a) ++ Q)) by
            rw [show k + 1 - a = k - a + 1 by omega, List.take_succ_eq_append_getElem hkb]
            simp only [List.append_assoc, List.cons_append, List.nil_append])
          have hdz := HZ.out
          obtain ⟨cx0, cx1, fx0, fx1⟩ := SWSrw.at HW2.out HR.out (HZ.out.trans HS0.out) k (by omega)
          obtain ⟨cy0, cy1, fy0, fy1⟩ := SWSrw.at HW2.out HR.out (HZ.out.trans HS0.out) (k + 1) (by omega)
          have HSW := Kp.mk (SWK.swapped HW2.out HR.out k (k + 1) (by omega) (by omega))
          generalize dk[k]! = xk at *
          generalize dk[k + 1]! = yk at *
          simp only [Nat.zero_add] at cx0 cx1 fx0 fx1 cy0 cy1 fy0 fy1
          have q0 : (0 : Int) ≤ (k : Int) + 1 := by omega
          have q1 : (k : Int) < (d.size : Int) := by omega
          have q3 : (k : Int) + 1 < (d.size : Int) := by omega
          have eb : ((k : Int) + 1).toNat = k + 1 := by omega
          obtain ⟨k2, hk2⟩ : ∃ k2, k2 = k + 1 := ⟨_, rfl⟩
          rw [← hk2] at eb cy0 cy1 fy0 fy1
          have HK2 := Kp.mk hk2
          have ne : ¬ k2 * 2 = k * 2 := by omega
          have ne2 : ¬ k2 * 2 = k * 2 + 1 := by omega
          have ne3 : ¬ k2 * 2 + 1 = k * 2 := by omega
          have ne4 : ¬ k * 2 = k2 * 2 := by omega
          have ne5 : ¬ k * 2 = k2 * 2 + 1 := by omega
          have ne6 : ¬ k * 2 + 1 = k2 * 2 := by omega
          clear hdz hk2 HW2
          go_wp2_with fail
          go_region
          go_wp2_with fail
          go_roundw
          case rel =>
            refine ⟨k + 1, swp dk k (k + 1), by go_num, by omega, by omega, ⟨?_⟩, ⟨(swp_szS _ _ _).trans HZ.out⟩, ⟨by rw [HSP.out, HNX.out]⟩⟩
            have h := HSW.out
            simp only [Nat.zero_add] at h
            rw [HK2.out]
            exact h
          case measure => simp [intOf]; omega
        · obtain rfl : k = p - 1 := by omega
          have t3 : decide (((p - 1 : Nat) : Int) < (p : Int) - 1) = false := decide_eq_false (by omega)
          go_wp2_with fail
          refine bodyPost_ret (results_none rfl _ _ _) rfl ?_
          refine ⟨rfl, dk, HW2.out, HZ.out, ?_⟩
          rw [HT.out, HFI.out, HPM.out]
          simp
end Go.Proofs.Ytocnecbhpofdgaa
