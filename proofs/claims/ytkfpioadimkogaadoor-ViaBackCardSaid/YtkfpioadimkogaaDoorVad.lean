/- By whom a message came (layer 20): Parse, the program's; Text, both sides. -/
import Derived.Test.YtkfpioadimkogaaDoorVac
namespace Go.Proofs.YtkfpioadimkogaaDoor
open Go.RowKit
set_option linter.unusedVariables false
set_option linter.unusedSimpArgs false

def vaOk1 (s : ByteArray) : Bool := vaVer (vaV s) && decide (0 < vaGap s)
theorem vaOk_split (s : ByteArray) : vaOk s = (vaOk1 s && rsB (vaL s)) := by unfold vaOk vaOk1; rw [Bool.and_assoc]
theorem vaL_eq (s : ByteArray) : vaL s = fromB s (preN vaNB s + vaGap s) := by unfold vaL; rw [fromB_from]
theorem va_join {s : ByteArray} (h : vaHasSl s = true) : upB s (vaT s) ++ ⟨#[47]⟩ ++ upB (fromB s (vaT s + 1)) (vaT2 s) = upB s (vaTo s) := by
  obtain ⟨h1, h2⟩ := va_sl_iff.1 h
  have e : vaTo s = vaT s + 1 + vaT2 s := by unfold vaTo; rw [h]; rfl
  rw [e]
  refine ba_ext ?_
  rw [cat_app, cat_app, upB_list, upB_list, upB_list, fromB_list, List.take_add, List.take_succ_eq_append_getElem (by rw [← ba_size]; exact h1)]
  congr 2
  have : s.data.toList[vaT s]'(by rw [← ba_size]; exact h1) = 47 := UInt8.toNat_inj.1 (by rw [bt_list s _ h1, h2]; rfl)
  rw [this]
def vaH (x : ByteArray × ByteArray × ByteArray) : Array Value := #[.string x.1, .string x.2.1, .string x.2.2]
def RetHp (s : ByteArray) (w : World) (e : Ending) (w' : World) : Prop := e = .returned (.tuple #[.agg (vaH (vaR s)), .int .i64 (vaE s)]) ∧ Below w.heap.size w w'
/-- What Parse keeps: its result, the cursor. -/
structure VaW (s : ByteArray) (n : Nat) (w W : World) : Prop where
  res : Bl W w.heap.size 26 #[.string ⟨#[]⟩, .string ⟨#[]⟩, .string ⟨#[]⟩]
  cur : CurAt (w.heap.size + 1) s n W
  bel : Below w.heap.size w W
theorem VaW.below {s : ByteArray} {n : Nat} {w W W2 : World} (h : VaW s n w W) (hb : Below W.heap.size W W2) : VaW s n w W2 := ⟨h.res.below hb, h.cur.kept hb, h.bel.trans (hb.mono h.bel.size)⟩
theorem VaW.to {s : ByteArray} {n m : Nat} {w W W2 : World} (h : VaW s n w W) (ht : CurTo (w.heap.size + 1) s m W W2) : VaW s m w W2 :=
  ⟨h.res.but ht.1 (by omega), ht.2, h.bel.trans (ht.1.below (by omega) h.bel.size)⟩
theorem vares {h : Nat} {W : World} {c0 c1 c2 : Value} (hb : Bl W h 26 #[c0, c1, c2]) : W.cell? ⟨h, 0, none⟩ = some c0 ∧ W.cell? ⟨h, 1, none⟩ = some c1 ∧ W.cell? ⟨h, 2, none⟩ = some c2 ∧
    W.frozen? ⟨h, 0, none⟩ = false ∧ W.frozen? ⟨h, 1, none⟩ = false ∧ W.frozen? ⟨h, 2, none⟩ = false ∧ h < W.heap.size := ⟨hb.cell 0, hb.cell 1, hb.cell 2, hb.free 0, hb.free 1, hb.free 2, hb.lt⟩
theorem vabel3 {w0 w : World} {B h : Nat} (hb : Below B w0 w) (hB : B ≤ h) (a b c : Value) : Below B w0 (((w.setCell ⟨h, 0, none⟩ a).setCell ⟨h, 1, none⟩ b).setCell ⟨h, 2, none⟩ c) :=
  ((hb.setCell (p := ⟨h, 0, none⟩) hB a).setCell (p := ⟨h, 1, none⟩) hB b).setCell (p := ⟨h, 2, none⟩) hB c
theorem upB_empty (s : ByteArray) (n : Nat) (hn : n ≤ s.size) : (upB s n).toList.isEmpty = decide (n = 0) := by
  rw [emp_iff, Bool.eq_iff_iff, decide_eq_true_eq, decide_eq_true_eq, upB_size]; omega
theorem byB_size (l : ByteArray) : (byB l).size = preN vaNB l := by unfold byB; rw [upB_size]; have := preN_le vaNB l; omega
theorem byB_all {l : ByteArray} (h : ¬ preN vaNB l < l.size) : byB l = l := by
  unfold byB
  have := preN_le vaNB l
  rw [show preN vaNB l = l.size by omega, upB_all]
theorem tlB_size (l : ByteArray) : (tlB l).size = l.size - preN vaNB l := by unfold tlB; rw [fromB_size]
theorem by_ne {l : ByteArray} : ((byB l).toList == l.toList) = decide ((tlB l).size = 0) := by
  rw [tlB_size]
  have := preN_le vaNB l
  by_cases h : preN vaNB l < l.size
  · rw [decide_eq_false (by omega), beq_eq_false_iff_ne]
    intro e
    have e2 : byB l = l := ba_ext (by rw [← ByteArray.toList_eq, ← ByteArray.toList_eq, e])
    have := byB_size l
    rw [e2] at this
    omega
  · rw [decide_eq_true (by omega), byB_all h]; simp
/-! ### The ways -/
theorem va_bad {s : ByteArray} (h0 : 0 < s.size) (h : vaOk1 s = false) : vaR s = (⟨#[]⟩, ⟨#[]⟩, ⟨#[]⟩) ∧ vaE s = 3 := by
  have hk : vaOk s = false := by rw [vaOk_split, h]; rfl
  unfold vaR vaE
  rw [if_neg (fun q => by rw [hk] at q; exact absurd q.2 (by simp)), if_neg (by omega), if_neg (by rw [hk]; simp)]
  exact ⟨rfl, rfl⟩
theorem va_bad2 {s : ByteArray} (h0 : 0 < s.size) (h : rsB (vaL s) = false) : vaR s = (⟨#[]⟩, ⟨#[]⟩, ⟨#[]⟩) ∧ vaE s = 3 := by
  have hk : vaOk s = false := by rw [vaOk_split, h, Bool.and_false]
  unfold vaR vaE
  rw [if_neg (fun q => by rw [hk] at q; exact absurd q.2 (by simp)), if_neg (by omega), if_neg (by rw [hk]; simp)]
  exact ⟨rfl, rfl⟩
theorem va_good {s : ByteArray} (h0 : 0 < s.size) (h1 : vaOk1 s = true) (h : rsB (vaL s) = true) : vaR s = (vaV s, byB (vaL s), cmB (vaL s)) ∧ vaE s = 0 := by
  have hk : vaOk s = true := by rw [vaOk_split, h, h1]; rfl
  unfold vaR vaE
  rw [if_pos ⟨h0, hk⟩, if_neg (by omega), if_pos hk]
  exact ⟨rfl, rfl⟩
theorem va_ee : fromB ByteArray.empty (preN blankN ByteArray.empty) = ⟨#[]⟩ := by decide +kernel
theorem vaOk1_eq (s : ByteArray) : vaOk1 s = (vaTok s && decide (0 < preN blankN (fromB s (vaTo s)))) := by rw [(va_ver s).1]; rfl
theorem vaTok_ff {s : ByteArray} (h : vaTok s = false) : vaOk1 s = false := by rw [vaOk1_eq, h]; rfl
set_option maxRecDepth 100000 in
set_option maxHeartbeats 4000000 in
theorem va_p1 (s : ByteArray) (w : World) (hs : s.size ≤ 900000) (h0 : 0 < s.size) (ht : vaT s = 0) (hsl : vaHasSl s = false) : Calls Tryd.prog 10 #[.string s] w (RetHp s w) := by
  obtain ⟨n1, n2⟩ := hs_nemp h0
  have hT := preN_le tcharB s
  have HT0 := Kp.mk (fun W (h : CurAt (w.heap.size + 1) s 0 W) => show Calls Tryd.prog 38 #[.pointer (some ⟨w.heap.size + 1, 0, none⟩)] W fun e w' => e = .returned (.string (upB s (vaT s))) ∧ CurTo (w.heap.size + 1) s (vaT s) W w' by
    have := cur_token (w.heap.size + 1) 0 s W h
    rwa [fromB_zero, Nat.zero_add] at this)
  have HT1 := Kp.mk (fun W (h : CurAt (w.heap.size + 1) s (vaT s + 1) W) => show Calls Tryd.prog 38 #[.pointer (some ⟨w.heap.size + 1, 0, none⟩)] W fun e w' => e = .returned (.string (upB (fromB s (vaT s + 1)) (vaT2 s))) ∧ CurTo (w.heap.size + 1) s (vaT s + 1 + vaT2 s) W w' from cur_token (w.heap.size + 1) (vaT s + 1) s W h)
  have HZ2 := Kp.mk (show (upB (fromB s (vaT s + 1)) (vaT2 s)).size ≤ 900000 by rw [upB_size, fromB_size]; omega)
  have HR0 := Kp.mk (Bl.new w 26 #[.string ⟨#[]⟩, .string ⟨#[]⟩, .string ⟨#[]⟩])
  have HB0 := Kp.mk ((Below.refl _ w).alloc (Nat.le_refl _) (.cells #[.string ⟨#[]⟩, .string ⟨#[]⟩, .string ⟨#[]⟩] 26))
  rw [show upB s (vaT s) = ⟨#[]⟩ by rw [ht]; exact upB_zero s] at HT0
  have HNO := Kp.mk (fun (h1 : vaT s < s.size) (h2 : (bt s (vaT s) : Int) = 47) => show False by
    have := va_sl_iff.2 ⟨h1, by omega⟩
    rw [hsl] at this; cases this)
  have hok : vaTok s = false := by unfold vaTok; rw [ht]; rfl
  have HV := Kp.mk (va_bad h0 (vaTok_ff hok))
  clear ht hsl hok
  go_enter Tryd.func10, Tryd.ntmps10
  go_wp2_with fail
  refine (cur_new s _ (by omega)).mono ?_
  rintro e w1 ⟨rfl, hb, hc⟩
  have W1 := Kp.mk (show VaW s 0 w w1 from ⟨HR0.out.below hb, by simpa using hc, HB0.out.trans (hb.mono HB0.out.size)⟩)
  clear hb hc
  go_wp2_with fail
  refine (HT0.out _ W1.out.cur).mono ?_
  rintro e w2 ⟨rfl, ht⟩
  have W2 := Kp.mk (W1.out.to ht)
  clear ht
  go_wp2_with fail
  refine (cur_byte_no _ _ _ _ _ W2.out.cur HNO.out).mono ?_
  rintro e w3 ⟨rfl, hb⟩
  have W3 := Kp.mk (W2.out.below hb)
  clear hb
  go_wp2_with fail
  refine (cur_left _ _ _ _ W3.out.cur).mono ?_
  rintro e w5 ⟨rfl, hb⟩
  have W5 := Kp.mk (W3.out.below hb)
  clear hb
  obtain ⟨L, hL⟩ : ∃ L, L = fromB s (vaT s) := ⟨_, rfl⟩
  rw [← hL]
  have hLz : L.size ≤ 900000 := by rw [hL, fromB_size]; omega
  clear hL
  go_wp2_with fail
  refine (va_ia_any L _ (by omega)).mono ?_
  rintro e w6 ⟨rfl, hb⟩
  have W6 := Kp.mk (W5.out.below hb)
  clear hb
  by_cases hm : preN vaNB L < L.size
  · rw [if_pos hm]
    generalize preN vaNB L = m at *
    have j1 : (0 : Int) ≤ (m : Int) := by omega
    have j2 : (m : Int) ≤ (L.size : Int) := by omega
    have j3 : ¬ (m : Int) < 0 := by omega
    have j4 : min m L.size = m := by omega
    go_wp2_with fail
    refine (va_tl_any _ _).mono ?_
    rintro e w7 ⟨rfl, hb⟩
    have W7 := Kp.mk (W6.out.below hb)
    clear hb
    obtain ⟨c0, c1, c2, f0, f1, f2, hl⟩ := vares W7.out.res
    generalize fromB _ _ = CM at *
    go_wp2_with fail
    exact bodyPost_ret (v := .tuple #[.agg #[.string ⟨#[]⟩, .string ⟨#[]⟩, .string ⟨#[]⟩], .int .i64 3]) (by simp [results, Tryd.results10, go_sem, c0, c1, c2, hl]) rfl ⟨by rw [HV.out.1, HV.out.2] <;> rfl, vabel3 W7.out.bel (Nat.le_refl _) _ _ _⟩
  · rw [if_neg hm]
    clear hm
    have j1 : (L.size : Int) ≤ (L.size : Int) := Int.le_refl _
    go_wp2_with fail
    refine (va_tl_any _ _).mono ?_
    rintro e w7 ⟨rfl, hb⟩
    have W7 := Kp.mk (W6.out.below hb)
    clear hb
    obtain ⟨c0, c1, c2, f0, f1, f2, hl⟩ := vares W7.out.res
    generalize fromB _ _ = CM at *
    go_wp2_with fail
    exact bodyPost_ret (v := .tuple #[.agg #[.string ⟨#[]⟩, .string ⟨#[]⟩, .string ⟨#[]⟩], .int .i64 3]) (by simp [results, Tryd.results10, go_sem, c0, c1, c2, hl]) rfl ⟨by rw [HV.out.1, HV.out.2] <;> rfl, vabel3 W7.out.bel (Nat.le_refl _) _ _ _⟩
set_option maxRecDepth 100000 in
set_option maxHeartbeats 4000000 in
theorem va_p2 (s : ByteArray) (w : World) (hs : s.size ≤ 900000) (h0 : 0 < s.size) (ht : vaT s = 0) (hsl : vaHasSl s = true) : Calls Tryd.prog 10 #[.string s] w (RetHp s w) := by
  obtain ⟨n1, n2⟩ := hs_nemp h0
  have hT := preN_le tcharB s
  have HT0 := Kp.mk (fun W (h : CurAt (w.heap.size + 1) s 0 W) => show Calls Tryd.prog 38 #[.pointer (some ⟨w.heap.size + 1, 0, none⟩)] W fun e w' => e = .returned (.string (upB s (vaT s))) ∧ CurTo (w.heap.size + 1) s (vaT s) W w' by
    have := cur_token (w.heap.size + 1) 0 s W h
    rwa [fromB_zero, Nat.zero_add] at this)
  have HT1 := Kp.mk (fun W (h : CurAt (w.heap.size + 1) s (vaT s + 1) W) => show Calls Tryd.prog 38 #[.pointer (some ⟨w.heap.size + 1, 0, none⟩)] W fun e w' => e = .returned (.string (upB (fromB s (vaT s + 1)) (vaT2 s))) ∧ CurTo (w.heap.size + 1) s (vaT s + 1 + vaT2 s) W w' from cur_token (w.heap.size + 1) (vaT s + 1) s W h)
  have HZ2 := Kp.mk (show (upB (fromB s (vaT s + 1)) (vaT2 s)).size ≤ 900000 by rw [upB_size, fromB_size]; omega)
  have HR0 := Kp.mk (Bl.new w 26 #[.string ⟨#[]⟩, .string ⟨#[]⟩, .string ⟨#[]⟩])
  have HB0 := Kp.mk ((Below.refl _ w).alloc (Nat.le_refl _) (.cells #[.string ⟨#[]⟩, .string ⟨#[]⟩, .string ⟨#[]⟩] 26))
  rw [show upB s (vaT s) = ⟨#[]⟩ by rw [ht]; exact upB_zero s] at HT0
  have HYES := Kp.mk (show vaT s < s.size ∧ (bt s (vaT s) : Int) = 47 from ⟨(va_sl_iff.1 hsl).1, by have := (va_sl_iff.1 hsl).2; omega⟩)
  have hok : vaTok s = false := by unfold vaTok; rw [ht]; rfl
  have HV := Kp.mk (va_bad h0 (vaTok_ff hok))
  clear ht hsl hok
  go_enter Tryd.func10, Tryd.ntmps10
  go_wp2_with fail
  refine (cur_new s _ (by omega)).mono ?_
  rintro e w1 ⟨rfl, hb, hc⟩
  have W1 := Kp.mk (show VaW s 0 w w1 from ⟨HR0.out.below hb, by simpa using hc, HB0.out.trans (hb.mono HB0.out.size)⟩)
  clear hb hc
  go_wp2_with fail
  refine (HT0.out _ W1.out.cur).mono ?_
  rintro e w2 ⟨rfl, ht⟩
  have W2 := Kp.mk (W1.out.to ht)
  clear ht
  go_wp2_with fail
  refine (cur_byte_yes _ _ _ _ _ W2.out.cur HYES.out.1 HYES.out.2).mono ?_
  rintro e w3a ⟨rfl, ht⟩
  have W3a := Kp.mk (W2.out.to ht)
  clear ht
  go_wp2_with fail
  refine (HT1.out _ W3a.out.cur).mono ?_
  rintro e w3 ⟨rfl, ht⟩
  have W3 := Kp.mk (W3a.out.to ht)
  clear ht
  have hz2 := HZ2.out
  generalize upB (fromB s (vaT s + 1)) (vaT2 s) = V2 at *
  go_wp2_with fail
  refine (cur_left _ _ _ _ W3.out.cur).mono ?_
  rintro e w5 ⟨rfl, hb⟩
  have W5 := Kp.mk (W3.out.below hb)
  clear hb
  obtain ⟨L, hL⟩ : ∃ L, L = fromB s (vaT s + 1 + vaT2 s) := ⟨_, rfl⟩
  rw [← hL]
  have hLz : L.size ≤ 900000 := by rw [hL, fromB_size]; omega
  clear hL
  go_wp2_with fail
  refine (va_ia_any L _ (by omega)).mono ?_
  rintro e w6 ⟨rfl, hb⟩
  have W6 := Kp.mk (W5.out.below hb)
  clear hb
  by_cases hm : preN vaNB L < L.size
  · rw [if_pos hm]
    generalize preN vaNB L = m at *
    have j1 : (0 : Int) ≤ (m : Int) := by omega
    have j2 : (m : Int) ≤ (L.size : Int) := by omega
    have j3 : ¬ (m : Int) < 0 := by omega
    have j4 : min m L.size = m := by omega
    go_wp2_with fail
    refine (va_tl_any _ _).mono ?_
    rintro e w7 ⟨rfl, hb⟩
    have W7 := Kp.mk (W6.out.below hb)
    clear hb
    obtain ⟨c0, c1, c2, f0, f1, f2, hl⟩ := vares W7.out.res
    generalize fromB _ _ = CM at *
    go_wp2_with fail
    exact bodyPost_ret (v := .tuple #[.agg #[.string ⟨#[]⟩, .string ⟨#[]⟩, .string ⟨#[]⟩], .int .i64 3]) (by simp [results, Tryd.results10, go_sem, c0, c1, c2, hl]) rfl ⟨by rw [HV.out.1, HV.out.2] <;> rfl, vabel3 W7.out.bel (Nat.le_refl _) _ _ _⟩
  · rw [if_neg hm]
    clear hm
    have j1 : (L.size : Int) ≤ (L.size : Int) := Int.le_refl _
    go_wp2_with fail
    refine (va_tl_any _ _).mono ?_
    rintro e w7 ⟨rfl, hb⟩
    have W7 := Kp.mk (W6.out.below hb)
    clear hb
    obtain ⟨c0, c1, c2, f0, f1, f2, hl⟩ := vares W7.out.res
    generalize fromB _ _ = CM at *
    go_wp2_with fail
    exact bodyPost_ret (v := .tuple #[.agg #[.string ⟨#[]⟩, .string ⟨#[]⟩, .string ⟨#[]⟩], .int .i64 3]) (by simp [results, Tryd.results10, go_sem, c0, c1, c2, hl]) rfl ⟨by rw [HV.out.1, HV.out.2] <;> rfl, vabel3 W7.out.bel (Nat.le_refl _) _ _ _⟩
set_option maxRecDepth 100000 in
set_option maxHeartbeats 4000000 in
theorem va_p4 (s : ByteArray) (w : World) (hs : s.size ≤ 900000) (h0 : 0 < s.size) (ht : 0 < vaT s) (hsl : vaHasSl s = true) (ht2 : vaT2 s = 0) : Calls Tryd.prog 10 #[.string s] w (RetHp s w) := by
  obtain ⟨n1, n2⟩ := hs_nemp h0
  have hT := preN_le tcharB s
  have HT0 := Kp.mk (fun W (h : CurAt (w.heap.size + 1) s 0 W) => show Calls Tryd.prog 38 #[.pointer (some ⟨w.heap.size + 1, 0, none⟩)] W fun e w' => e = .returned (.string (upB s (vaT s))) ∧ CurTo (w.heap.size + 1) s (vaT s) W w' by
    have := cur_token (w.heap.size + 1) 0 s W h
    rwa [fromB_zero, Nat.zero_add] at this)
  have HT1 := Kp.mk (fun W (h : CurAt (w.heap.size + 1) s (vaT s + 1) W) => show Calls Tryd.prog 38 #[.pointer (some ⟨w.heap.size + 1, 0, none⟩)] W fun e w' => e = .returned (.string (upB (fromB s (vaT s + 1)) (vaT2 s))) ∧ CurTo (w.heap.size + 1) s (vaT s + 1 + vaT2 s) W w' from cur_token (w.heap.size + 1) (vaT s + 1) s W h)
  have HZ2 := Kp.mk (show (upB (fromB s (vaT s + 1)) (vaT2 s)).size ≤ 900000 by rw [upB_size, fromB_size]; omega)
  have HR0 := Kp.mk (Bl.new w 26 #[.string ⟨#[]⟩, .string ⟨#[]⟩, .string ⟨#[]⟩])
  have HB0 := Kp.mk ((Below.refl _ w).alloc (Nat.le_refl _) (.cells #[.string ⟨#[]⟩, .string ⟨#[]⟩, .string ⟨#[]⟩] 26))
  rw [show upB (fromB s (vaT s + 1)) (vaT2 s) = ⟨#[]⟩ by rw [ht2]; exact upB_zero _] at HT1
  have HP1 := Kp.mk (hs_nemp (x := upB s (vaT s)) (by rw [upB_size]; omega))
  have HU1 := Kp.mk (show (upB s (vaT s)).size ≤ 900000 by rw [upB_size]; omega)
  have HYES := Kp.mk (show vaT s < s.size ∧ (bt s (vaT s) : Int) = 47 from ⟨(va_sl_iff.1 hsl).1, by have := (va_sl_iff.1 hsl).2; omega⟩)
  have hok : vaTok s = false := by unfold vaTok; rw [hsl, ht2]; simp
  have HV := Kp.mk (va_bad h0 (vaTok_ff hok))
  clear ht hsl hok ht2
  go_enter Tryd.func10, Tryd.ntmps10
  go_wp2_with fail
  refine (cur_new s _ (by omega)).mono ?_
  rintro e w1 ⟨rfl, hb, hc⟩
  have W1 := Kp.mk (show VaW s 0 w w1 from ⟨HR0.out.below hb, by simpa using hc, HB0.out.trans (hb.mono HB0.out.size)⟩)
  clear hb hc
  go_wp2_with fail
  refine (HT0.out _ W1.out.cur).mono ?_
  rintro e w2 ⟨rfl, ht⟩
  have W2 := Kp.mk (W1.out.to ht)
  clear ht
  obtain ⟨p1, p2⟩ := HP1.out
  have hu1 := HU1.out
  generalize upB s (vaT s) = V1 at *
  go_wp2_with fail
  refine (cur_byte_yes _ _ _ _ _ W2.out.cur HYES.out.1 HYES.out.2).mono ?_
  rintro e w3a ⟨rfl, ht⟩
  have W3a := Kp.mk (W2.out.to ht)
  clear ht
  go_wp2_with fail
  refine (HT1.out _ W3a.out.cur).mono ?_
  rintro e w3 ⟨rfl, ht⟩
  have W3 := Kp.mk (W3a.out.to ht)
  clear ht
  have hz2 := HZ2.out
  go_wp2_with fail
  refine (cur_left _ _ _ _ W3.out.cur).mono ?_
  rintro e w5 ⟨rfl, hb⟩
  have W5 := Kp.mk (W3.out.below hb)
  clear hb
  obtain ⟨L, hL⟩ : ∃ L, L = fromB s (vaT s + 1 + vaT2 s) := ⟨_, rfl⟩
  rw [← hL]
  have hLz : L.size ≤ 900000 := by rw [hL, fromB_size]; omega
  clear hL
  go_wp2_with fail
  refine (va_ia_any L _ (by omega)).mono ?_
  rintro e w6 ⟨rfl, hb⟩
  have W6 := Kp.mk (W5.out.below hb)
  clear hb
  by_cases hm : preN vaNB L < L.size
  · rw [if_pos hm]
    generalize preN vaNB L = m at *
    have j1 : (0 : Int) ≤ (m : Int) := by omega
    have j2 : (m : Int) ≤ (L.size : Int) := by omega
    have j3 : ¬ (m : Int) < 0 := by omega
    have j4 : min m L.size = m := by omega
    go_wp2_with fail
    refine (va_tl_any _ _).mono ?_
    rintro e w7 ⟨rfl, hb⟩
    have W7 := Kp.mk (W6.out.below hb)
    clear hb
    obtain ⟨c0, c1, c2, f0, f1, f2, hl⟩ := vares W7.out.res
    generalize fromB _ _ = CM at *
    go_wp2_with fail
    exact bodyPost_ret (v := .tuple #[.agg #[.string ⟨#[]⟩, .string ⟨#[]⟩, .string ⟨#[]⟩], .int .i64 3]) (by simp [results, Tryd.results10, go_sem, c0, c1, c2, hl]) rfl ⟨by rw [HV.out.1, HV.out.2] <;> rfl, vabel3 W7.out.bel (Nat.le_refl _) _ _ _⟩
  · rw [if_neg hm]
    clear hm
    have j1 : (L.size : Int) ≤ (L.size : Int) := Int.le_refl _
    go_wp2_with fail
    refine (va_tl_any _ _).mono ?_
    rintro e w7 ⟨rfl, hb⟩
    have W7 := Kp.mk (W6.out.below hb)
    clear hb
    obtain ⟨c0, c1, c2, f0, f1, f2, hl⟩ := vares W7.out.res
    generalize fromB _ _ = CM at *
    go_wp2_with fail
    exact bodyPost_ret (v := .tuple #[.agg #[.string ⟨#[]⟩, .string ⟨#[]⟩, .string ⟨#[]⟩], .int .i64 3]) (by simp [results, Tryd.results10, go_sem, c0, c1, c2, hl]) rfl ⟨by rw [HV.out.1, HV.out.2] <;> rfl, vabel3 W7.out.bel (Nat.le_refl _) _ _ _⟩
set_option maxRecDepth 100000 in
set_option maxHeartbeats 4000000 in
theorem va_p3z (s : ByteArray) (w : World) (hs : s.size ≤ 900000) (h0 : 0 < s.size) (ht : 0 < vaT s) (hsl : vaHasSl s = false) (hg : preN blankN (fromB s (vaT s)) = 0) : Calls Tryd.prog 10 #[.string s] w (RetHp s w) := by
  obtain ⟨n1, n2⟩ := hs_nemp h0
  have hT := preN_le tcharB s
  have HT0 := Kp.mk (fun W (h : CurAt (w.heap.size + 1) s 0 W) => show Calls Tryd.prog 38 #[.pointer (some ⟨w.heap.size + 1, 0, none⟩)] W fun e w' => e = .returned (.string (upB s (vaT s))) ∧ CurTo (w.heap.size + 1) s (vaT s) W w' by
    have := cur_token (w.heap.size + 1) 0 s W h
    rwa [fromB_zero, Nat.zero_add] at this)
  have HT1 := Kp.mk (fun W (h : CurAt (w.heap.size + 1) s (vaT s + 1) W) => show Calls Tryd.prog 38 #[.pointer (some ⟨w.heap.size + 1, 0, none⟩)] W fun e w' => e = .returned (.string (upB (fromB s (vaT s + 1)) (vaT2 s))) ∧ CurTo (w.heap.size + 1) s (vaT s + 1 + vaT2 s) W w' from cur_token (w.heap.size + 1) (vaT s + 1) s W h)
  have HZ2 := Kp.mk (show (upB (fromB s (vaT s + 1)) (vaT2 s)).size ≤ 900000 by rw [upB_size, fromB_size]; omega)
  have HR0 := Kp.mk (Bl.new w 26 #[.string ⟨#[]⟩, .string ⟨#[]⟩, .string ⟨#[]⟩])
  have HB0 := Kp.mk ((Below.refl _ w).alloc (Nat.le_refl _) (.cells #[.string ⟨#[]⟩, .string ⟨#[]⟩, .string ⟨#[]⟩] 26))
  have HP1 := Kp.mk (hs_nemp (x := upB s (vaT s)) (by rw [upB_size]; omega))
  have HU1 := Kp.mk (show (upB s (vaT s)).size ≤ 900000 by rw [upB_size]; omega)
  have HNO := Kp.mk (fun (h1 : vaT s < s.size) (h2 : (bt s (vaT s) : Int) = 47) => show False by
    have := va_sl_iff.2 ⟨h1, by omega⟩
    rw [hsl] at this; cases this)
  have hto : vaTo s = vaT s := by unfold vaTo; rw [hsl]; rfl
  have hok : vaTok s = true := by unfold vaTok; rw [hsl, decide_eq_true ht]; rfl
  have HV := Kp.mk (va_bad h0 (show vaOk1 s = false by rw [vaOk1_eq, hok, hto, decide_eq_false (by omega)]; rfl))
  have HGP := Kp.mk (show decide (0 < preN blankN (fromB s (vaT s))) = false from decide_eq_false (by omega))
  clear ht hsl hok hto
  clear hg
  go_enter Tryd.func10, Tryd.ntmps10
  go_wp2_with fail
  refine (cur_new s _ (by omega)).mono ?_
  rintro e w1 ⟨rfl, hb, hc⟩
  have W1 := Kp.mk (show VaW s 0 w w1 from ⟨HR0.out.below hb, by simpa using hc, HB0.out.trans (hb.mono HB0.out.size)⟩)
  clear hb hc
  go_wp2_with fail
  refine (HT0.out _ W1.out.cur).mono ?_
  rintro e w2 ⟨rfl, ht⟩
  have W2 := Kp.mk (W1.out.to ht)
  clear ht
  obtain ⟨p1, p2⟩ := HP1.out
  have hu1 := HU1.out
  generalize upB s (vaT s) = V1 at *
  go_wp2_with fail
  refine (cur_byte_no _ _ _ _ _ W2.out.cur HNO.out).mono ?_
  rintro e w3 ⟨rfl, hb⟩
  have W3 := Kp.mk (W2.out.below hb)
  clear hb
  go_wp2_with fail
  refine (cur_skip _ _ _ _ W3.out.cur).mono ?_
  rintro e w4 ⟨rfl, ht⟩
  have W4 := Kp.mk (W3.out.to ht)
  clear ht
  have hgp := HGP.out
  go_wp2_with fail
  refine (cur_left _ _ _ _ W4.out.cur).mono ?_
  rintro e w5 ⟨rfl, hb⟩
  have W5 := Kp.mk (W4.out.below hb)
  clear hb
  obtain ⟨L, hL⟩ : ∃ L, L = fromB s (vaT s + preN blankN (fromB s (vaT s))) := ⟨_, rfl⟩
  rw [← hL]
  have hLz : L.size ≤ 900000 := by rw [hL, fromB_size]; omega
  clear hL
  go_wp2_with fail
  refine (va_ia_any L _ (by omega)).mono ?_
  rintro e w6 ⟨rfl, hb⟩
  have W6 := Kp.mk (W5.out.below hb)
  clear hb
  by_cases hm : preN vaNB L < L.size
  · rw [if_pos hm]
    generalize preN vaNB L = m at *
    have j1 : (0 : Int) ≤ (m : Int) := by omega
    have j2 : (m : Int) ≤ (L.size : Int) := by omega
    have j3 : ¬ (m : Int) < 0 := by omega
    have j4 : min m L.size = m := by omega
    go_wp2_with fail
    refine (va_tl_any _ _).mono ?_
    rintro e w7 ⟨rfl, hb⟩
    have W7 := Kp.mk (W6.out.below hb)
    clear hb
    obtain ⟨c0, c1, c2, f0, f1, f2, hl⟩ := vares W7.out.res
    generalize fromB _ _ = CM at *
    go_wp2_with fail
    exact bodyPost_ret (v := .tuple #[.agg #[.string ⟨#[]⟩, .string ⟨#[]⟩, .string ⟨#[]⟩], .int .i64 3]) (by simp [results, Tryd.results10, go_sem, c0, c1, c2, hl]) rfl ⟨by rw [HV.out.1, HV.out.2] <;> rfl, vabel3 W7.out.bel (Nat.le_refl _) _ _ _⟩
  · rw [if_neg hm]
    clear hm
    have j1 : (L.size : Int) ≤ (L.size : Int) := Int.le_refl _
    go_wp2_with fail
    refine (va_tl_any _ _).mono ?_
    rintro e w7 ⟨rfl, hb⟩
    have W7 := Kp.mk (W6.out.below hb)
    clear hb
    obtain ⟨c0, c1, c2, f0, f1, f2, hl⟩ := vares W7.out.res
    generalize fromB _ _ = CM at *
    go_wp2_with fail
    exact bodyPost_ret (v := .tuple #[.agg #[.string ⟨#[]⟩, .string ⟨#[]⟩, .string ⟨#[]⟩], .int .i64 3]) (by simp [results, Tryd.results10, go_sem, c0, c1, c2, hl]) rfl ⟨by rw [HV.out.1, HV.out.2] <;> rfl, vabel3 W7.out.bel (Nat.le_refl _) _ _ _⟩
set_option maxRecDepth 100000 in
set_option maxHeartbeats 4000000 in
theorem va_p5z (s : ByteArray) (w : World) (hs : s.size ≤ 900000) (h0 : 0 < s.size) (ht : 0 < vaT s) (hsl : vaHasSl s = true) (ht2 : 0 < vaT2 s) (hg : preN blankN (fromB s (vaT s + 1 + vaT2 s)) = 0) : Calls Tryd.prog 10 #[.string s] w (RetHp s w) := by
  obtain ⟨n1, n2⟩ := hs_nemp h0
  have hT := preN_le tcharB s
  have HT0 := Kp.mk (fun W (h : CurAt (w.heap.size + 1) s 0 W) => show Calls Tryd.prog 38 #[.pointer (some ⟨w.heap.size + 1, 0, none⟩)] W fun e w' => e = .returned (.string (upB s (vaT s))) ∧ CurTo (w.heap.size + 1) s (vaT s) W w' by
    have := cur_token (w.heap.size + 1) 0 s W h
    rwa [fromB_zero, Nat.zero_add] at this)
  have HT1 := Kp.mk (fun W (h : CurAt (w.heap.size + 1) s (vaT s + 1) W) => show Calls Tryd.prog 38 #[.pointer (some ⟨w.heap.size + 1, 0, none⟩)] W fun e w' => e = .returned (.string (upB (fromB s (vaT s + 1)) (vaT2 s))) ∧ CurTo (w.heap.size + 1) s (vaT s + 1 + vaT2 s) W w' from cur_token (w.heap.size + 1) (vaT s + 1) s W h)
  have HZ2 := Kp.mk (show (upB (fromB s (vaT s + 1)) (vaT2 s)).size ≤ 900000 by rw [upB_size, fromB_size]; omega)
  have HR0 := Kp.mk (Bl.new w 26 #[.string ⟨#[]⟩, .string ⟨#[]⟩, .string ⟨#[]⟩])
  have HB0 := Kp.mk ((Below.refl _ w).alloc (Nat.le_refl _) (.cells #[.string ⟨#[]⟩, .string ⟨#[]⟩, .string ⟨#[]⟩] 26))
  have HP1 := Kp.mk (hs_nemp (x := upB s (vaT s)) (by rw [upB_size]; omega))
  have HU1 := Kp.mk (show (upB s (vaT s)).size ≤ 900000 by rw [upB_size]; omega)
  have HYES := Kp.mk (show vaT s < s.size ∧ (bt s (vaT s) : Int) = 47 from ⟨(va_sl_iff.1 hsl).1, by have := (va_sl_iff.1 hsl).2; omega⟩)
  have HP2 := Kp.mk (hs_nemp (x := upB (fromB s (vaT s + 1)) (vaT2 s)) (by rw [upB_size, fromB_size]; have := preN_le tcharB (fromB s (vaT s + 1)); rw [fromB_size] at this; unfold vaT2 at *; omega))
  have hto : vaTo s = vaT s + 1 + vaT2 s := by unfold vaTo; rw [hsl]; rfl
  have HJ := va_join hsl
  have hok : vaTok s = true := by unfold vaTok; rw [decide_eq_true ht, decide_eq_true ht2]; cases vaHasSl s <;> rfl
  have HV := Kp.mk (va_bad h0 (show vaOk1 s = false by rw [vaOk1_eq, hok, hto, decide_eq_false (by omega)]; rfl))
  have HGP := Kp.mk (show decide (0 < preN blankN (fromB s (vaT s + 1 + vaT2 s))) = false from decide_eq_false (by omega))
  clear ht hsl hok ht2 hto HJ
  clear hg
  go_enter Tryd.func10, Tryd.ntmps10
  go_wp2_with fail
  refine (cur_new s _ (by omega)).mono ?_
  rintro e w1 ⟨rfl, hb, hc⟩
  have W1 := Kp.mk (show VaW s 0 w w1 from ⟨HR0.out.below hb, by simpa using hc, HB0.out.trans (hb.mono HB0.out.size)⟩)
  clear hb hc
  go_wp2_with fail
  refine (HT0.out _ W1.out.cur).mono ?_
  rintro e w2 ⟨rfl, ht⟩
  have W2 := Kp.mk (W1.out.to ht)
  clear ht
  obtain ⟨p1, p2⟩ := HP1.out
  have hu1 := HU1.out
  generalize upB s (vaT s) = V1 at *
  go_wp2_with fail
  refine (cur_byte_yes _ _ _ _ _ W2.out.cur HYES.out.1 HYES.out.2).mono ?_
  rintro e w3a ⟨rfl, ht⟩
  have W3a := Kp.mk (W2.out.to ht)
  clear ht
  go_wp2_with fail
  refine (HT1.out _ W3a.out.cur).mono ?_
  rintro e w3 ⟨rfl, ht⟩
  have W3 := Kp.mk (W3a.out.to ht)
  clear ht
  have hz2 := HZ2.out
  obtain ⟨p3, p4⟩ := HP2.out
  generalize upB (fromB s (vaT s + 1)) (vaT2 s) = V2 at *
  go_wp2_with fail
  refine (cur_skip _ _ _ _ W3.out.cur).mono ?_
  rintro e w4 ⟨rfl, ht⟩
  have W4 := Kp.mk (W3.out.to ht)
  clear ht
  have hgp := HGP.out
  go_wp2_with fail
  refine (cur_left _ _ _ _ W4.out.cur).mono ?_
  rintro e w5 ⟨rfl, hb⟩
  have W5 := Kp.mk (W4.out.below hb)
  clear hb
  obtain ⟨L, hL⟩ : ∃ L, L = fromB s (vaT s + 1 + vaT2 s + preN blankN (fromB s (vaT s + 1 + vaT2 s))) := ⟨_, rfl⟩
  rw [← hL]
  have hLz : L.size ≤ 900000 := by rw [hL, fromB_size]; omega
  clear hL
  go_wp2_with fail
  refine (va_ia_any L _ (by omega)).mono ?_
  rintro e w6 ⟨rfl, hb⟩
  have W6 := Kp.mk (W5.out.below hb)
  clear hb
  by_cases hm : preN vaNB L < L.size
  · rw [if_pos hm]
    generalize preN vaNB L = m at *
    have j1 : (0 : Int) ≤ (m : Int) := by omega
    have j2 : (m : Int) ≤ (L.size : Int) := by omega
    have j3 : ¬ (m : Int) < 0 := by omega
    have j4 : min m L.size = m := by omega
    go_wp2_with fail
    refine (va_tl_any _ _).mono ?_
    rintro e w7 ⟨rfl, hb⟩
    have W7 := Kp.mk (W6.out.below hb)
    clear hb
    obtain ⟨c0, c1, c2, f0, f1, f2, hl⟩ := vares W7.out.res
    generalize fromB _ _ = CM at *
    go_wp2_with fail
    exact bodyPost_ret (v := .tuple #[.agg #[.string ⟨#[]⟩, .string ⟨#[]⟩, .string ⟨#[]⟩], .int .i64 3]) (by simp [results, Tryd.results10, go_sem, c0, c1, c2, hl]) rfl ⟨by rw [HV.out.1, HV.out.2] <;> rfl, vabel3 W7.out.bel (Nat.le_refl _) _ _ _⟩
  · rw [if_neg hm]
    clear hm
    have j1 : (L.size : Int) ≤ (L.size : Int) := Int.le_refl _
    go_wp2_with fail
    refine (va_tl_any _ _).mono ?_
    rintro e w7 ⟨rfl, hb⟩
    have W7 := Kp.mk (W6.out.below hb)
    clear hb
    obtain ⟨c0, c1, c2, f0, f1, f2, hl⟩ := vares W7.out.res
    generalize fromB _ _ = CM at *
    go_wp2_with fail
    exact bodyPost_ret (v := .tuple #[.agg #[.string ⟨#[]⟩, .string ⟨#[]⟩, .string ⟨#[]⟩], .int .i64 3]) (by simp [results, Tryd.results10, go_sem, c0, c1, c2, hl]) rfl ⟨by rw [HV.out.1, HV.out.2] <;> rfl, vabel3 W7.out.bel (Nat.le_refl _) _ _ _⟩
set_option maxRecDepth 100000 in
set_option maxHeartbeats 4000000 in
theorem va_p3a (s : ByteArray) (w : World) (hs : s.size ≤ 900000) (h0 : 0 < s.size) (ht : 0 < vaT s) (hsl : vaHasSl s = false) (hg : 0 < preN blankN (fromB s (vaT s))) (hm : preN vaNB (vaL s) < (vaL s).size) (hp : vaPl (byB (vaL s)) = false) : Calls Tryd.prog 10 #[.string s] w (RetHp s w) := by
  obtain ⟨n1, n2⟩ := hs_nemp h0
  have hT := preN_le tcharB s
  have HT0 := Kp.mk (fun W (h : CurAt (w.heap.size + 1) s 0 W) => show Calls Tryd.prog 38 #[.pointer (some ⟨w.heap.size + 1, 0, none⟩)] W fun e w' => e = .returned (.string (upB s (vaT s))) ∧ CurTo (w.heap.size + 1) s (vaT s) W w' by
    have := cur_token (w.heap.size + 1) 0 s W h
    rwa [fromB_zero, Nat.zero_add] at this)
  have HT1 := Kp.mk (fun W (h : CurAt (w.heap.size + 1) s (vaT s + 1) W) => show Calls Tryd.prog 38 #[.pointer (some ⟨w.heap.size + 1, 0, none⟩)] W fun e w' => e = .returned (.string (upB (fromB s (vaT s + 1)) (vaT2 s))) ∧ CurTo (w.heap.size + 1) s (vaT s + 1 + vaT2 s) W w' from cur_token (w.heap.size + 1) (vaT s + 1) s W h)
  have HZ2 := Kp.mk (show (upB (fromB s (vaT s + 1)) (vaT2 s)).size ≤ 900000 by rw [upB_size, fromB_size]; omega)
  have HR0 := Kp.mk (Bl.new w 26 #[.string ⟨#[]⟩, .string ⟨#[]⟩, .string ⟨#[]⟩])
  have HB0 := Kp.mk ((Below.refl _ w).alloc (Nat.le_refl _) (.cells #[.string ⟨#[]⟩, .string ⟨#[]⟩, .string ⟨#[]⟩] 26))
  have HP1 := Kp.mk (hs_nemp (x := upB s (vaT s)) (by rw [upB_size]; omega))
  have HU1 := Kp.mk (show (upB s (vaT s)).size ≤ 900000 by rw [upB_size]; omega)
  have HNO := Kp.mk (fun (h1 : vaT s < s.size) (h2 : (bt s (vaT s) : Int) = 47) => show False by
    have := va_sl_iff.2 ⟨h1, by omega⟩
    rw [hsl] at this; cases this)
  have hto : vaTo s = vaT s := by unfold vaTo; rw [hsl]; rfl
  have hok : vaTok s = true := by unfold vaTok; rw [hsl, decide_eq_true ht]; rfl
  have hok1 : vaOk1 s = true := by rw [vaOk1_eq, hok, hto, decide_eq_true hg]; rfl
  have hN : vaV s = upB s (vaTo s) := by unfold vaV; rw [(va_ver s).2 (by rw [hok, hto, decide_eq_true hg]; rfl)]
  have hP : vaTo s = preN vaNB s := (va_ver s).2 (by rw [hok, hto, decide_eq_true hg]; rfl)
  have HLL := Kp.mk (show fromB s (vaT s + preN blankN (fromB s (vaT s))) = vaL s by rw [vaL_eq]; unfold vaGap; rw [← hP, hto])
  have HVV := Kp.mk (show upB s (vaT s) = vaV s by rw [hN, hto])
  have htl : ¬ (tlB (vaL s)).size = 0 := by rw [tlB_size]; omega
  have HV := Kp.mk (va_bad2 h0 (show rsB (vaL s) = false by unfold rsB; rw [hp]; rfl))
  have HPLA := Kp.mk (fun w => va_placed_any (byB (vaL s)) w (by rw [byB_size]; have := preN_le vaNB (vaL s); rw [vaL_eq, fromB_size] at *; omega))
  rw [hp] at HPLA
  have HM := Kp.mk hm
  have HLZ := Kp.mk (show (vaL s).size ≤ 900000 by rw [vaL_eq, fromB_size]; omega)
  have HCZ := Kp.mk (fun (L : ByteArray) (h : L.size ≤ 900000) => show (cmB L).size ≤ 900000 by unfold cmB tlB; rw [fromB_size, fromB_size]; omega)
  clear hm hp htl
  have HGP := Kp.mk (show decide (0 < preN blankN (fromB s (vaT s))) = true from decide_eq_true hg)
  clear ht hsl hok hto
  clear hg hok1 hN hP
  go_enter Tryd.func10, Tryd.ntmps10
  go_wp2_with fail
  refine (cur_new s _ (by omega)).mono ?_
  rintro e w1 ⟨rfl, hb, hc⟩
  have W1 := Kp.mk (show VaW s 0 w w1 from ⟨HR0.out.below hb, by simpa using hc, HB0.out.trans (hb.mono HB0.out.size)⟩)
  clear hb hc
  go_wp2_with fail
  refine (HT0.out _ W1.out.cur).mono ?_
  rintro e w2 ⟨rfl, ht⟩
  have W2 := Kp.mk (W1.out.to ht)
  clear ht
  obtain ⟨p1, p2⟩ := HP1.out
  have hu1 := HU1.out
  generalize upB s (vaT s) = V1 at *
  go_wp2_with fail
  refine (cur_byte_no _ _ _ _ _ W2.out.cur HNO.out).mono ?_
  rintro e w3 ⟨rfl, hb⟩
  have W3 := Kp.mk (W2.out.below hb)
  clear hb
  go_wp2_with fail
  refine (cur_skip _ _ _ _ W3.out.cur).mono ?_
  rintro e w4 ⟨rfl, ht⟩
  have W4 := Kp.mk (W3.out.to ht)
  clear ht
  have hgp := HGP.out
  go_wp2_with fail
  refine (cur_left _ _ _ _ W4.out.cur).mono ?_
  rintro e w5 ⟨rfl, hb⟩
  have W5 := Kp.mk (W4.out.below hb)
  clear hb
  have hvv := HVV.out
  subst hvv
  clear HVV
  generalize vaV s = VV at *
  have hll := HLL.out
  clear hgp HGP HT0 HT1 HLL
  generalize vaT s + preN blankN (fromB s (vaT s)) = NN at *
  generalize fromB s NN = L0 at hll ⊢
  subst hll
  have hLz := HLZ.out
  have hsp := tlB_size (vaL s)
  generalize vaL s = L at *
  go_wp2_with fail
  refine (va_ia_any L _ (by omega)).mono ?_
  rintro e w6 ⟨rfl, hb⟩
  have W6 := Kp.mk (W5.out.below hb)
  clear hb
  have hm := HM.out
  rw [if_pos hm]
  have HX := Kp.mk (show L.extract (preN vaNB L) L.size = tlB L from rfl)
  have HBY := Kp.mk (show L.extract 0 (preN vaNB L) = byB L from rfl)
  have HNE := Kp.mk (show ((byB L).toList == L.toList) = false by rw [by_ne]; exact decide_eq_false (by omega))
  have HCM := Kp.mk (show fromB (tlB L) (preN blankN (tlB L)) = cmB L from rfl)
  have HBZ := Kp.mk (byB_size L)
  generalize preN vaNB L = m at *
  have j1 : (0 : Int) ≤ (m : Int) := by omega
  have j2 : (m : Int) ≤ (L.size : Int) := by omega
  have j3 : ¬ (m : Int) < 0 := by omega
  have j4 : min m L.size = m := by omega
  clear hsp hm
  go_wp2_with fail
  rw [HX.out]
  refine (va_tl_any _ _).mono ?_
  rintro e w7 ⟨rfl, hb⟩
  have W7 := Kp.mk (W6.out.below hb)
  clear hb
  rw [HCM.out, HBY.out]
  have hby := HNE.out
  have hcz : (cmB L).size ≤ 900000 := HCZ.out L hLz
  generalize byB L = B at *
  generalize cmB L = CM at *
  go_wp2_with fail
  refine (HPLA.out _).mono ?_
  rintro e w8 ⟨rfl, hb⟩
  have W8 := Kp.mk (W7.out.below hb)
  clear hb
  obtain ⟨c0, c1, c2, f0, f1, f2, hl⟩ := vares W8.out.res
  go_wp2_with fail
  exact bodyPost_ret (v := .tuple #[.agg #[.string ⟨#[]⟩, .string ⟨#[]⟩, .string ⟨#[]⟩], .int .i64 3]) (by simp [results, Tryd.results10, go_sem, c0, c1, c2, hl]) rfl ⟨by rw [HV.out.1, HV.out.2] <;> rfl, vabel3 W8.out.bel (Nat.le_refl _) _ _ _⟩
set_option maxRecDepth 100000 in
set_option maxHeartbeats 4000000 in
theorem va_p3b (s : ByteArray) (w : World) (hs : s.size ≤ 900000) (h0 : 0 < s.size) (ht : 0 < vaT s) (hsl : vaHasSl s = false) (hg : 0 < preN blankN (fromB s (vaT s))) (hm : preN vaNB (vaL s) < (vaL s).size) (hp : vaPl (byB (vaL s)) = true) (hc : cloB (cmB (vaL s)) = false) : Calls Tryd.prog 10 #[.string s] w (RetHp s w) := by
  obtain ⟨n1, n2⟩ := hs_nemp h0
  have hT := preN_le tcharB s
  have HT0 := Kp.mk (fun W (h : CurAt (w.heap.size + 1) s 0 W) => show Calls Tryd.prog 38 #[.pointer (some ⟨w.heap.size + 1, 0, none⟩)] W fun e w' => e = .returned (.string (upB s (vaT s))) ∧ CurTo (w.heap.size + 1) s (vaT s) W w' by
    have := cur_token (w.heap.size + 1) 0 s W h
    rwa [fromB_zero, Nat.zero_add] at this)
  have HT1 := Kp.mk (fun W (h : CurAt (w.heap.size + 1) s (vaT s + 1) W) => show Calls Tryd.prog 38 #[.pointer (some ⟨w.heap.size + 1, 0, none⟩)] W fun e w' => e = .returned (.string (upB (fromB s (vaT s + 1)) (vaT2 s))) ∧ CurTo (w.heap.size + 1) s (vaT s + 1 + vaT2 s) W w' from cur_token (w.heap.size + 1) (vaT s + 1) s W h)
  have HZ2 := Kp.mk (show (upB (fromB s (vaT s + 1)) (vaT2 s)).size ≤ 900000 by rw [upB_size, fromB_size]; omega)
  have HR0 := Kp.mk (Bl.new w 26 #[.string ⟨#[]⟩, .string ⟨#[]⟩, .string ⟨#[]⟩])
  have HB0 := Kp.mk ((Below.refl _ w).alloc (Nat.le_refl _) (.cells #[.string ⟨#[]⟩, .string ⟨#[]⟩, .string ⟨#[]⟩] 26))
  have HP1 := Kp.mk (hs_nemp (x := upB s (vaT s)) (by rw [upB_size]; omega))
  have HU1 := Kp.mk (show (upB s (vaT s)).size ≤ 900000 by rw [upB_size]; omega)
  have HNO := Kp.mk (fun (h1 : vaT s < s.size) (h2 : (bt s (vaT s) : Int) = 47) => show False by
    have := va_sl_iff.2 ⟨h1, by omega⟩
    rw [hsl] at this; cases this)
  have hto : vaTo s = vaT s := by unfold vaTo; rw [hsl]; rfl
  have hok : vaTok s = true := by unfold vaTok; rw [hsl, decide_eq_true ht]; rfl
  have hok1 : vaOk1 s = true := by rw [vaOk1_eq, hok, hto, decide_eq_true hg]; rfl
  have hN : vaV s = upB s (vaTo s) := by unfold vaV; rw [(va_ver s).2 (by rw [hok, hto, decide_eq_true hg]; rfl)]
  have hP : vaTo s = preN vaNB s := (va_ver s).2 (by rw [hok, hto, decide_eq_true hg]; rfl)
  have HLL := Kp.mk (show fromB s (vaT s + preN blankN (fromB s (vaT s))) = vaL s by rw [vaL_eq]; unfold vaGap; rw [← hP, hto])
  have HVV := Kp.mk (show upB s (vaT s) = vaV s by rw [hN, hto])
  have htl : ¬ (tlB (vaL s)).size = 0 := by rw [tlB_size]; omega
  have HV := Kp.mk (va_bad2 h0 (show rsB (vaL s) = false by unfold rsB; rw [hp, hc, decide_eq_false htl]; rfl))
  have HPLA := Kp.mk (fun w => va_placed_any (byB (vaL s)) w (by rw [byB_size]; have := preN_le vaNB (vaL s); rw [vaL_eq, fromB_size] at *; omega))
  rw [hp] at HPLA
  have HM := Kp.mk hm
  have HLZ := Kp.mk (show (vaL s).size ≤ 900000 by rw [vaL_eq, fromB_size]; omega)
  have HCZ := Kp.mk (fun (L : ByteArray) (h : L.size ≤ 900000) => show (cmB L).size ≤ 900000 by unfold cmB tlB; rw [fromB_size, fromB_size]; omega)
  have HCLA := Kp.mk (fun w => va_closed_any (cmB (vaL s)) w (HCZ.out _ HLZ.out))
  rw [hc] at HCLA
  clear hm hp htl hc
  have HGP := Kp.mk (show decide (0 < preN blankN (fromB s (vaT s))) = true from decide_eq_true hg)
  clear ht hsl hok hto
  clear hg hok1 hN hP
  go_enter Tryd.func10, Tryd.ntmps10
  go_wp2_with fail
  refine (cur_new s _ (by omega)).mono ?_
  rintro e w1 ⟨rfl, hb, hc⟩
  have W1 := Kp.mk (show VaW s 0 w w1 from ⟨HR0.out.below hb, by simpa using hc, HB0.out.trans (hb.mono HB0.out.size)⟩)
  clear hb hc
  go_wp2_with fail
  refine (HT0.out _ W1.out.cur).mono ?_
  rintro e w2 ⟨rfl, ht⟩
  have W2 := Kp.mk (W1.out.to ht)
  clear ht
  obtain ⟨p1, p2⟩ := HP1.out
  have hu1 := HU1.out
  generalize upB s (vaT s) = V1 at *
  go_wp2_with fail
  refine (cur_byte_no _ _ _ _ _ W2.out.cur HNO.out).mono ?_
  rintro e w3 ⟨rfl, hb⟩
  have W3 := Kp.mk (W2.out.below hb)
  clear hb
  go_wp2_with fail
  refine (cur_skip _ _ _ _ W3.out.cur).mono ?_
  rintro e w4 ⟨rfl, ht⟩
  have W4 := Kp.mk (W3.out.to ht)
  clear ht
  have hgp := HGP.out
  go_wp2_with fail
  refine (cur_left _ _ _ _ W4.out.cur).mono ?_
  rintro e w5 ⟨rfl, hb⟩
  have W5 := Kp.mk (W4.out.below hb)
  clear hb
  have hvv := HVV.out
  subst hvv
  clear HVV
  generalize vaV s = VV at *
  have hll := HLL.out
  clear hgp HGP HT0 HT1 HLL
  generalize vaT s + preN blankN (fromB s (vaT s)) = NN at *
  generalize fromB s NN = L0 at hll ⊢
  subst hll
  have hLz := HLZ.out
  have hsp := tlB_size (vaL s)
  generalize vaL s = L at *
  go_wp2_with fail
  refine (va_ia_any L _ (by omega)).mono ?_
  rintro e w6 ⟨rfl, hb⟩
  have W6 := Kp.mk (W5.out.below hb)
  clear hb
  have hm := HM.out
  rw [if_pos hm]
  have HX := Kp.mk (show L.extract (preN vaNB L) L.size = tlB L from rfl)
  have HBY := Kp.mk (show L.extract 0 (preN vaNB L) = byB L from rfl)
  have HNE := Kp.mk (show ((byB L).toList == L.toList) = false by rw [by_ne]; exact decide_eq_false (by omega))
  have HCM := Kp.mk (show fromB (tlB L) (preN blankN (tlB L)) = cmB L from rfl)
  have HBZ := Kp.mk (byB_size L)
  generalize preN vaNB L = m at *
  have j1 : (0 : Int) ≤ (m : Int) := by omega
  have j2 : (m : Int) ≤ (L.size : Int) := by omega
  have j3 : ¬ (m : Int) < 0 := by omega
  have j4 : min m L.size = m := by omega
  clear hsp hm
  go_wp2_with fail
  rw [HX.out]
  refine (va_tl_any _ _).mono ?_
  rintro e w7 ⟨rfl, hb⟩
  have W7 := Kp.mk (W6.out.below hb)
  clear hb
  rw [HCM.out, HBY.out]
  have hby := HNE.out
  have hcz : (cmB L).size ≤ 900000 := HCZ.out L hLz
  generalize byB L = B at *
  generalize cmB L = CM at *
  go_wp2_with fail
  refine (HPLA.out _).mono ?_
  rintro e w8 ⟨rfl, hb⟩
  have W8 := Kp.mk (W7.out.below hb)
  clear hb
  go_wp2_with fail
  refine (HCLA.out _).mono ?_
  rintro e w9 ⟨rfl, hb⟩
  have W9 := Kp.mk (W8.out.below hb)
  clear hb
  obtain ⟨c0, c1, c2, f0, f1, f2, hl⟩ := vares W9.out.res
  go_wp2_with fail
  exact bodyPost_ret (v := .tuple #[.agg #[.string ⟨#[]⟩, .string ⟨#[]⟩, .string ⟨#[]⟩], .int .i64 3]) (by simp [results, Tryd.results10, go_sem, c0, c1, c2, hl]) rfl ⟨by rw [HV.out.1, HV.out.2] <;> rfl, vabel3 W9.out.bel (Nat.le_refl _) _ _ _⟩
set_option maxRecDepth 100000 in
set_option maxHeartbeats 4000000 in
theorem va_p3c (s : ByteArray) (w : World) (hs : s.size ≤ 900000) (h0 : 0 < s.size) (ht : 0 < vaT s) (hsl : vaHasSl s = false) (hg : 0 < preN blankN (fromB s (vaT s))) (hm : preN vaNB (vaL s) < (vaL s).size) (hp : vaPl (byB (vaL s)) = true) (hc : cloB (cmB (vaL s)) = true) : Calls Tryd.prog 10 #[.string s] w (RetHp s w) := by
  obtain ⟨n1, n2⟩ := hs_nemp h0
  have hT := preN_le tcharB s
  have HT0 := Kp.mk (fun W (h : CurAt (w.heap.size + 1) s 0 W) => show Calls Tryd.prog 38 #[.pointer (some ⟨w.heap.size + 1, 0, none⟩)] W fun e w' => e = .returned (.string (upB s (vaT s))) ∧ CurTo (w.heap.size + 1) s (vaT s) W w' by
    have := cur_token (w.heap.size + 1) 0 s W h
    rwa [fromB_zero, Nat.zero_add] at this)
  have HT1 := Kp.mk (fun W (h : CurAt (w.heap.size + 1) s (vaT s + 1) W) => show Calls Tryd.prog 38 #[.pointer (some ⟨w.heap.size + 1, 0, none⟩)] W fun e w' => e = .returned (.string (upB (fromB s (vaT s + 1)) (vaT2 s))) ∧ CurTo (w.heap.size + 1) s (vaT s + 1 + vaT2 s) W w' from cur_token (w.heap.size + 1) (vaT s + 1) s W h)
  have HZ2 := Kp.mk (show (upB (fromB s (vaT s + 1)) (vaT2 s)).size ≤ 900000 by rw [upB_size, fromB_size]; omega)
  have HR0 := Kp.mk (Bl.new w 26 #[.string ⟨#[]⟩, .string ⟨#[]⟩, .string ⟨#[]⟩])
  have HB0 := Kp.mk ((Below.refl _ w).alloc (Nat.le_refl _) (.cells #[.string ⟨#[]⟩, .string ⟨#[]⟩, .string ⟨#[]⟩] 26))
  have HP1 := Kp.mk (hs_nemp (x := upB s (vaT s)) (by rw [upB_size]; omega))
  have HU1 := Kp.mk (show (upB s (vaT s)).size ≤ 900000 by rw [upB_size]; omega)
  have HNO := Kp.mk (fun (h1 : vaT s < s.size) (h2 : (bt s (vaT s) : Int) = 47) => show False by
    have := va_sl_iff.2 ⟨h1, by omega⟩
    rw [hsl] at this; cases this)
  have hto : vaTo s = vaT s := by unfold vaTo; rw [hsl]; rfl
  have hok : vaTok s = true := by unfold vaTok; rw [hsl, decide_eq_true ht]; rfl
  have hok1 : vaOk1 s = true := by rw [vaOk1_eq, hok, hto, decide_eq_true hg]; rfl
  have hN : vaV s = upB s (vaTo s) := by unfold vaV; rw [(va_ver s).2 (by rw [hok, hto, decide_eq_true hg]; rfl)]
  have hP : vaTo s = preN vaNB s := (va_ver s).2 (by rw [hok, hto, decide_eq_true hg]; rfl)
  have HLL := Kp.mk (show fromB s (vaT s + preN blankN (fromB s (vaT s))) = vaL s by rw [vaL_eq]; unfold vaGap; rw [← hP, hto])
  have HVV := Kp.mk (show upB s (vaT s) = vaV s by rw [hN, hto])
  have htl : ¬ (tlB (vaL s)).size = 0 := by rw [tlB_size]; omega
  have HV := Kp.mk (va_good h0 hok1 (show rsB (vaL s) = true by unfold rsB; rw [hp, hc]; simp))
  have HPLA := Kp.mk (fun w => va_placed_any (byB (vaL s)) w (by rw [byB_size]; have := preN_le vaNB (vaL s); rw [vaL_eq, fromB_size] at *; omega))
  rw [hp] at HPLA
  have HM := Kp.mk hm
  have HLZ := Kp.mk (show (vaL s).size ≤ 900000 by rw [vaL_eq, fromB_size]; omega)
  have HCZ := Kp.mk (fun (L : ByteArray) (h : L.size ≤ 900000) => show (cmB L).size ≤ 900000 by unfold cmB tlB; rw [fromB_size, fromB_size]; omega)
  have HCLA := Kp.mk (fun w => va_closed_any (cmB (vaL s)) w (HCZ.out _ HLZ.out))
  rw [hc] at HCLA
  clear hm hp htl hc
  have HGP := Kp.mk (show decide (0 < preN blankN (fromB s (vaT s))) = true from decide_eq_true hg)
  clear ht hsl hok hto
  clear hg hok1 hN hP
  go_enter Tryd.func10, Tryd.ntmps10
  go_wp2_with fail
  refine (cur_new s _ (by omega)).mono ?_
  rintro e w1 ⟨rfl, hb, hc⟩
  have W1 := Kp.mk (show VaW s 0 w w1 from ⟨HR0.out.below hb, by simpa using hc, HB0.out.trans (hb.mono HB0.out.size)⟩)
  clear hb hc
  go_wp2_with fail
  refine (HT0.out _ W1.out.cur).mono ?_
  rintro e w2 ⟨rfl, ht⟩
  have W2 := Kp.mk (W1.out.to ht)
  clear ht
  obtain ⟨p1, p2⟩ := HP1.out
  have hu1 := HU1.out
  generalize upB s (vaT s) = V1 at *
  go_wp2_with fail
  refine (cur_byte_no _ _ _ _ _ W2.out.cur HNO.out).mono ?_
  rintro e w3 ⟨rfl, hb⟩
  have W3 := Kp.mk (W2.out.below hb)
  clear hb
  go_wp2_with fail
  refine (cur_skip _ _ _ _ W3.out.cur).mono ?_
  rintro e w4 ⟨rfl, ht⟩
  have W4 := Kp.mk (W3.out.to ht)
  clear ht
  have hgp := HGP.out
  go_wp2_with fail
  refine (cur_left _ _ _ _ W4.out.cur).mono ?_
  rintro e w5 ⟨rfl, hb⟩
  have W5 := Kp.mk (W4.out.below hb)
  clear hb
  have hvv := HVV.out
  subst hvv
  clear HVV
  generalize vaV s = VV at *
  have hll := HLL.out
  clear hgp HGP HT0 HT1 HLL
  generalize vaT s + preN blankN (fromB s (vaT s)) = NN at *
  generalize fromB s NN = L0 at hll ⊢
  subst hll
  have hLz := HLZ.out
  have hsp := tlB_size (vaL s)
  generalize vaL s = L at *
  go_wp2_with fail
  refine (va_ia_any L _ (by omega)).mono ?_
  rintro e w6 ⟨rfl, hb⟩
  have W6 := Kp.mk (W5.out.below hb)
  clear hb
  have hm := HM.out
  rw [if_pos hm]
  have HX := Kp.mk (show L.extract (preN vaNB L) L.size = tlB L from rfl)
  have HBY := Kp.mk (show L.extract 0 (preN vaNB L) = byB L from rfl)
  have HNE := Kp.mk (show ((byB L).toList == L.toList) = false by rw [by_ne]; exact decide_eq_false (by omega))
  have HCM := Kp.mk (show fromB (tlB L) (preN blankN (tlB L)) = cmB L from rfl)
  have HBZ := Kp.mk (byB_size L)
  generalize preN vaNB L = m at *
  have j1 : (0 : Int) ≤ (m : Int) := by omega
  have j2 : (m : Int) ≤ (L.size : Int) := by omega
  have j3 : ¬ (m : Int) < 0 := by omega
  have j4 : min m L.size = m := by omega
  clear hsp hm
  go_wp2_with fail
  rw [HX.out]
  refine (va_tl_any _ _).mono ?_
  rintro e w7 ⟨rfl, hb⟩
  have W7 := Kp.mk (W6.out.below hb)
  clear hb
  rw [HCM.out, HBY.out]
  have hby := HNE.out
  have hcz : (cmB L).size ≤ 900000 := HCZ.out L hLz
  generalize byB L = B at *
  generalize cmB L = CM at *
  go_wp2_with fail
  refine (HPLA.out _).mono ?_
  rintro e w8 ⟨rfl, hb⟩
  have W8 := Kp.mk (W7.out.below hb)
  clear hb
  go_wp2_with fail
  refine (HCLA.out _).mono ?_
  rintro e w9 ⟨rfl, hb⟩
  have W9 := Kp.mk (W8.out.below hb)
  clear hb
  obtain ⟨c0, c1, c2, f0, f1, f2, hl⟩ := vares W9.out.res
  go_wp2_with fail
  exact bodyPost_ret (v := .tuple #[.agg #[.string VV, .string B, .string CM], .int .i64 0]) (by simp [results, Tryd.results10, go_sem, c0, c1, c2, hl]) rfl ⟨by rw [HV.out.1, HV.out.2] <;> rfl, vabel3 W9.out.bel (Nat.le_refl _) _ _ _⟩
set_option maxRecDepth 100000 in
set_option maxHeartbeats 4000000 in
theorem va_p3d (s : ByteArray) (w : World) (hs : s.size ≤ 900000) (h0 : 0 < s.size) (ht : 0 < vaT s) (hsl : vaHasSl s = false) (hg : 0 < preN blankN (fromB s (vaT s))) (hm : ¬ preN vaNB (vaL s) < (vaL s).size) (hp : vaPl (vaL s) = false) : Calls Tryd.prog 10 #[.string s] w (RetHp s w) := by
  obtain ⟨n1, n2⟩ := hs_nemp h0
  have hT := preN_le tcharB s
  have HT0 := Kp.mk (fun W (h : CurAt (w.heap.size + 1) s 0 W) => show Calls Tryd.prog 38 #[.pointer (some ⟨w.heap.size + 1, 0, none⟩)] W fun e w' => e = .returned (.string (upB s (vaT s))) ∧ CurTo (w.heap.size + 1) s (vaT s) W w' by
    have := cur_token (w.heap.size + 1) 0 s W h
    rwa [fromB_zero, Nat.zero_add] at this)
  have HT1 := Kp.mk (fun W (h : CurAt (w.heap.size + 1) s (vaT s + 1) W) => show Calls Tryd.prog 38 #[.pointer (some ⟨w.heap.size + 1, 0, none⟩)] W fun e w' => e = .returned (.string (upB (fromB s (vaT s + 1)) (vaT2 s))) ∧ CurTo (w.heap.size + 1) s (vaT s + 1 + vaT2 s) W w' from cur_token (w.heap.size + 1) (vaT s + 1) s W h)
  have HZ2 := Kp.mk (show (upB (fromB s (vaT s + 1)) (vaT2 s)).size ≤ 900000 by rw [upB_size, fromB_size]; omega)
  have HR0 := Kp.mk (Bl.new w 26 #[.string ⟨#[]⟩, .string ⟨#[]⟩, .string ⟨#[]⟩])
  have HB0 := Kp.mk ((Below.refl _ w).alloc (Nat.le_refl _) (.cells #[.string ⟨#[]⟩, .string ⟨#[]⟩, .string ⟨#[]⟩] 26))
  have HP1 := Kp.mk (hs_nemp (x := upB s (vaT s)) (by rw [upB_size]; omega))
  have HU1 := Kp.mk (show (upB s (vaT s)).size ≤ 900000 by rw [upB_size]; omega)
  have HNO := Kp.mk (fun (h1 : vaT s < s.size) (h2 : (bt s (vaT s) : Int) = 47) => show False by
    have := va_sl_iff.2 ⟨h1, by omega⟩
    rw [hsl] at this; cases this)
  have hto : vaTo s = vaT s := by unfold vaTo; rw [hsl]; rfl
  have hok : vaTok s = true := by unfold vaTok; rw [hsl, decide_eq_true ht]; rfl
  have hok1 : vaOk1 s = true := by rw [vaOk1_eq, hok, hto, decide_eq_true hg]; rfl
  have hN : vaV s = upB s (vaTo s) := by unfold vaV; rw [(va_ver s).2 (by rw [hok, hto, decide_eq_true hg]; rfl)]
  have hP : vaTo s = preN vaNB s := (va_ver s).2 (by rw [hok, hto, decide_eq_true hg]; rfl)
  have HLL := Kp.mk (show fromB s (vaT s + preN blankN (fromB s (vaT s))) = vaL s by rw [vaL_eq]; unfold vaGap; rw [← hP, hto])
  have HVV := Kp.mk (show upB s (vaT s) = vaV s by rw [hN, hto])
  have htl : (tlB (vaL s)).size = 0 := by rw [tlB_size]; have := preN_le vaNB (vaL s); omega
  have hbl := byB_all hm
  have HV := Kp.mk (va_bad2 h0 (show rsB (vaL s) = false by unfold rsB; rw [hbl, hp]; rfl))
  have HPLA := Kp.mk (fun w => va_placed_any (vaL s) w (by rw [vaL_eq, fromB_size]; omega))
  rw [hp] at HPLA
  have HM := Kp.mk hm
  have HLZ := Kp.mk (show (vaL s).size ≤ 900000 by rw [vaL_eq, fromB_size]; omega)
  have HCZ := Kp.mk (fun (L : ByteArray) (h : L.size ≤ 900000) => show (cmB L).size ≤ 900000 by unfold cmB tlB; rw [fromB_size, fromB_size]; omega)
  clear hm hp htl hbl
  have HGP := Kp.mk (show decide (0 < preN blankN (fromB s (vaT s))) = true from decide_eq_true hg)
  clear ht hsl hok hto
  clear hg hok1 hN hP
  go_enter Tryd.func10, Tryd.ntmps10
  go_wp2_with fail
  refine (cur_new s _ (by omega)).mono ?_
  rintro e w1 ⟨rfl, hb, hc⟩
  have W1 := Kp.mk (show VaW s 0 w w1 from ⟨HR0.out.below hb, by simpa using hc, HB0.out.trans (hb.mono HB0.out.size)⟩)
  clear hb hc
  go_wp2_with fail
  refine (HT0.out _ W1.out.cur).mono ?_
  rintro e w2 ⟨rfl, ht⟩
  have W2 := Kp.mk (W1.out.to ht)
  clear ht
  obtain ⟨p1, p2⟩ := HP1.out
  have hu1 := HU1.out
  generalize upB s (vaT s) = V1 at *
  go_wp2_with fail
  refine (cur_byte_no _ _ _ _ _ W2.out.cur HNO.out).mono ?_
  rintro e w3 ⟨rfl, hb⟩
  have W3 := Kp.mk (W2.out.below hb)
  clear hb
  go_wp2_with fail
  refine (cur_skip _ _ _ _ W3.out.cur).mono ?_
  rintro e w4 ⟨rfl, ht⟩
  have W4 := Kp.mk (W3.out.to ht)
  clear ht
  have hgp := HGP.out
  go_wp2_with fail
  refine (cur_left _ _ _ _ W4.out.cur).mono ?_
  rintro e w5 ⟨rfl, hb⟩
  have W5 := Kp.mk (W4.out.below hb)
  clear hb
  have hvv := HVV.out
  subst hvv
  clear HVV
  generalize vaV s = VV at *
  have hll := HLL.out
  clear hgp HGP HT0 HT1 HLL
  generalize vaT s + preN blankN (fromB s (vaT s)) = NN at *
  generalize fromB s NN = L0 at hll ⊢
  subst hll
  have hLz := HLZ.out
  have hsp := tlB_size (vaL s)
  generalize vaL s = L at *
  go_wp2_with fail
  refine (va_ia_any L _ (by omega)).mono ?_
  rintro e w6 ⟨rfl, hb⟩
  have W6 := Kp.mk (W5.out.below hb)
  clear hb
  have hm := HM.out
  rw [if_neg hm]
  have j1 : (L.size : Int) ≤ (L.size : Int) := Int.le_refl _
  have j2 : (L.toList == L.toList) = true := by simp
  clear hsp hm
  go_wp2_with fail
  refine (va_tl_any _ _).mono ?_
  rintro e w7 ⟨rfl, hb⟩
  rw [va_ee]
  have W7 := Kp.mk (W6.out.below hb)
  clear hb
  go_wp2_with fail
  refine (HPLA.out _).mono ?_
  rintro e w8 ⟨rfl, hb⟩
  have W8 := Kp.mk (W7.out.below hb)
  clear hb
  obtain ⟨c0, c1, c2, f0, f1, f2, hl⟩ := vares W8.out.res
  go_wp2_with fail
  exact bodyPost_ret (v := .tuple #[.agg #[.string ⟨#[]⟩, .string ⟨#[]⟩, .string ⟨#[]⟩], .int .i64 3]) (by simp [results, Tryd.results10, go_sem, c0, c1, c2, hl]) rfl ⟨by rw [HV.out.1, HV.out.2] <;> rfl, vabel3 W8.out.bel (Nat.le_refl _) _ _ _⟩
set_option maxRecDepth 100000 in
set_option maxHeartbeats 4000000 in
theorem va_p3e (s : ByteArray) (w : World) (hs : s.size ≤ 900000) (h0 : 0 < s.size) (ht : 0 < vaT s) (hsl : vaHasSl s = false) (hg : 0 < preN blankN (fromB s (vaT s))) (hm : ¬ preN vaNB (vaL s) < (vaL s).size) (hp : vaPl (vaL s) = true) : Calls Tryd.prog 10 #[.string s] w (RetHp s w) := by
  obtain ⟨n1, n2⟩ := hs_nemp h0
  have hT := preN_le tcharB s
  have HT0 := Kp.mk (fun W (h : CurAt (w.heap.size + 1) s 0 W) => show Calls Tryd.prog 38 #[.pointer (some ⟨w.heap.size + 1, 0, none⟩)] W fun e w' => e = .returned (.string (upB s (vaT s))) ∧ CurTo (w.heap.size + 1) s (vaT s) W w' by
    have := cur_token (w.heap.size + 1) 0 s W h
    rwa [fromB_zero, Nat.zero_add] at this)
  have HT1 := Kp.mk (fun W (h : CurAt (w.heap.size + 1) s (vaT s + 1) W) => show Calls Tryd.prog 38 #[.pointer (some ⟨w.heap.size + 1, 0, none⟩)] W fun e w' => e = .returned (.string (upB (fromB s (vaT s + 1)) (vaT2 s))) ∧ CurTo (w.heap.size + 1) s (vaT s + 1 + vaT2 s) W w' from cur_token (w.heap.size + 1) (vaT s + 1) s W h)
  have HZ2 := Kp.mk (show (upB (fromB s (vaT s + 1)) (vaT2 s)).size ≤ 900000 by rw [upB_size, fromB_size]; omega)
  have HR0 := Kp.mk (Bl.new w 26 #[.string ⟨#[]⟩, .string ⟨#[]⟩, .string ⟨#[]⟩])
  have HB0 := Kp.mk ((Below.refl _ w).alloc (Nat.le_refl _) (.cells #[.string ⟨#[]⟩, .string ⟨#[]⟩, .string ⟨#[]⟩] 26))
  have HP1 := Kp.mk (hs_nemp (x := upB s (vaT s)) (by rw [upB_size]; omega))
  have HU1 := Kp.mk (show (upB s (vaT s)).size ≤ 900000 by rw [upB_size]; omega)
  have HNO := Kp.mk (fun (h1 : vaT s < s.size) (h2 : (bt s (vaT s) : Int) = 47) => show False by
    have := va_sl_iff.2 ⟨h1, by omega⟩
    rw [hsl] at this; cases this)
  have hto : vaTo s = vaT s := by unfold vaTo; rw [hsl]; rfl
  have hok : vaTok s = true := by unfold vaTok; rw [hsl, decide_eq_true ht]; rfl
  have hok1 : vaOk1 s = true := by rw [vaOk1_eq, hok, hto, decide_eq_true hg]; rfl
  have hN : vaV s = upB s (vaTo s) := by unfold vaV; rw [(va_ver s).2 (by rw [hok, hto, decide_eq_true hg]; rfl)]
  have hP : vaTo s = preN vaNB s := (va_ver s).2 (by rw [hok, hto, decide_eq_true hg]; rfl)
  have HLL := Kp.mk (show fromB s (vaT s + preN blankN (fromB s (vaT s))) = vaL s by rw [vaL_eq]; unfold vaGap; rw [← hP, hto])
  have HVV := Kp.mk (show upB s (vaT s) = vaV s by rw [hN, hto])
  have htl : (tlB (vaL s)).size = 0 := by rw [tlB_size]; have := preN_le vaNB (vaL s); omega
  have hbl := byB_all hm
  have HV := Kp.mk (show vaR s = (vaV s, vaL s, ⟨#[]⟩) ∧ vaE s = 0 by
    have := va_good h0 hok1 (show rsB (vaL s) = true by unfold rsB; rw [hbl, hp, decide_eq_true htl]; rfl)
    rw [hbl, cm_none htl] at this
    exact this)
  have HPLA := Kp.mk (fun w => va_placed_any (vaL s) w (by rw [vaL_eq, fromB_size]; omega))
  rw [hp] at HPLA
  have HM := Kp.mk hm
  have HLZ := Kp.mk (show (vaL s).size ≤ 900000 by rw [vaL_eq, fromB_size]; omega)
  have HCZ := Kp.mk (fun (L : ByteArray) (h : L.size ≤ 900000) => show (cmB L).size ≤ 900000 by unfold cmB tlB; rw [fromB_size, fromB_size]; omega)
  clear hm hp htl hbl
  have HGP := Kp.mk (show decide (0 < preN blankN (fromB s (vaT s))) = true from decide_eq_true hg)
  clear ht hsl hok hto
  clear hg hok1 hN hP
  go_enter Tryd.func10, Tryd.ntmps10
  go_wp2_with fail
  refine (cur_new s _ (by omega)).mono ?_
  rintro e w1 ⟨rfl, hb, hc⟩
  have W1 := Kp.mk (show VaW s 0 w w1 from ⟨HR0.out.below hb, by simpa using hc, HB0.out.trans (hb.mono HB0.out.size)⟩)
  clear hb hc
  go_wp2_with fail
  refine (HT0.out _ W1.out.cur).mono ?_
  rintro e w2 ⟨rfl, ht⟩
  have W2 := Kp.mk (W1.out.to ht)
  clear ht
  obtain ⟨p1, p2⟩ := HP1.out
  have hu1 := HU1.out
  generalize upB s (vaT s) = V1 at *
  go_wp2_with fail
  refine (cur_byte_no _ _ _ _ _ W2.out.cur HNO.out).mono ?_
  rintro e w3 ⟨rfl, hb⟩
  have W3 := Kp.mk (W2.out.below hb)
  clear hb
  go_wp2_with fail
  refine (cur_skip _ _ _ _ W3.out.cur).mono ?_
  rintro e w4 ⟨rfl, ht⟩
  have W4 := Kp.mk (W3.out.to ht)
  clear ht
  have hgp := HGP.out
  go_wp2_with fail
  refine (cur_left _ _ _ _ W4.out.cur).mono ?_
  rintro e w5 ⟨rfl, hb⟩
  have W5 := Kp.mk (W4.out.below hb)
  clear hb
  have hvv := HVV.out
  subst hvv
  clear HVV
  generalize vaV s = VV at *
  have hll := HLL.out
  clear hgp HGP HT0 HT1 HLL
  generalize vaT s + preN blankN (fromB s (vaT s)) = NN at *
  generalize fromB s NN = L0 at hll ⊢
  subst hll
  have hLz := HLZ.out
  have hsp := tlB_size (vaL s)
  generalize vaL s = L at *
  go_wp2_with fail
  refine (va_ia_any L _ (by omega)).mono ?_
  rintro e w6 ⟨rfl, hb⟩
  have W6 := Kp.mk (W5.out.below hb)
  clear hb
  have hm := HM.out
  rw [if_neg hm]
  have j1 : (L.size : Int) ≤ (L.size : Int) := Int.le_refl _
  have j2 : (L.toList == L.toList) = true := by simp
  clear hsp hm
  go_wp2_with fail
  refine (va_tl_any _ _).mono ?_
  rintro e w7 ⟨rfl, hb⟩
  rw [va_ee]
  have W7 := Kp.mk (W6.out.below hb)
  clear hb
  go_wp2_with fail
  refine (HPLA.out _).mono ?_
  rintro e w8 ⟨rfl, hb⟩
  have W8 := Kp.mk (W7.out.below hb)
  clear hb
  obtain ⟨c0, c1, c2, f0, f1, f2, hl⟩ := vares W8.out.res
  go_wp2_with fail
  exact bodyPost_ret (v := .tuple #[.agg #[.string VV, .string L, .string ⟨#[]⟩], .int .i64 0]) (by simp [results, Tryd.results10, go_sem, c0, c1, c2, hl]) rfl ⟨by rw [HV.out.1, HV.out.2] <;> rfl, vabel3 W8.out.bel (Nat.le_refl _) _ _ _⟩
set_option maxRecDepth 100000 in
set_option maxHeartbeats 4000000 in
theorem va_p5a (s : ByteArray) (w : World) (hs : s.size ≤ 900000) (h0 : 0 < s.size) (ht : 0 < vaT s) (hsl : vaHasSl s = true) (ht2 : 0 < vaT2 s) (hg : 0 < preN blankN (fromB s (vaT s + 1 + vaT2 s))) (hm : preN vaNB (vaL s) < (vaL s).size) (hp : vaPl (byB (vaL s)) = false) : Calls Tryd.prog 10 #[.string s] w (RetHp s w) := by
  obtain ⟨n1, n2⟩ := hs_nemp h0
  have hT := preN_le tcharB s
  have HT0 := Kp.mk (fun W (h : CurAt (w.heap.size + 1) s 0 W) => show Calls Tryd.prog 38 #[.pointer (some ⟨w.heap.size + 1, 0, none⟩)] W fun e w' => e = .returned (.string (upB s (vaT s))) ∧ CurTo (w.heap.size + 1) s (vaT s) W w' by
    have := cur_token (w.heap.size + 1) 0 s W h
    rwa [fromB_zero, Nat.zero_add] at this)
  have HT1 := Kp.mk (fun W (h : CurAt (w.heap.size + 1) s (vaT s + 1) W) => show Calls Tryd.prog 38 #[.pointer (some ⟨w.heap.size + 1, 0, none⟩)] W fun e w' => e = .returned (.string (upB (fromB s (vaT s + 1)) (vaT2 s))) ∧ CurTo (w.heap.size + 1) s (vaT s + 1 + vaT2 s) W w' from cur_token (w.heap.size + 1) (vaT s + 1) s W h)
  have HZ2 := Kp.mk (show (upB (fromB s (vaT s + 1)) (vaT2 s)).size ≤ 900000 by rw [upB_size, fromB_size]; omega)
  have HR0 := Kp.mk (Bl.new w 26 #[.string ⟨#[]⟩, .string ⟨#[]⟩, .string ⟨#[]⟩])
  have HB0 := Kp.mk ((Below.refl _ w).alloc (Nat.le_refl _) (.cells #[.string ⟨#[]⟩, .string ⟨#[]⟩, .string ⟨#[]⟩] 26))
  have HP1 := Kp.mk (hs_nemp (x := upB s (vaT s)) (by rw [upB_size]; omega))
  have HU1 := Kp.mk (show (upB s (vaT s)).size ≤ 900000 by rw [upB_size]; omega)
  have HYES := Kp.mk (show vaT s < s.size ∧ (bt s (vaT s) : Int) = 47 from ⟨(va_sl_iff.1 hsl).1, by have := (va_sl_iff.1 hsl).2; omega⟩)
  have HP2 := Kp.mk (hs_nemp (x := upB (fromB s (vaT s + 1)) (vaT2 s)) (by rw [upB_size, fromB_size]; have := preN_le tcharB (fromB s (vaT s + 1)); rw [fromB_size] at this; unfold vaT2 at *; omega))
  have hto : vaTo s = vaT s + 1 + vaT2 s := by unfold vaTo; rw [hsl]; rfl
  have HJ := va_join hsl
  have hok : vaTok s = true := by unfold vaTok; rw [decide_eq_true ht, decide_eq_true ht2]; cases vaHasSl s <;> rfl
  have hok1 : vaOk1 s = true := by rw [vaOk1_eq, hok, hto, decide_eq_true hg]; rfl
  have hN : vaV s = upB s (vaTo s) := by unfold vaV; rw [(va_ver s).2 (by rw [hok, hto, decide_eq_true hg]; rfl)]
  have hP : vaTo s = preN vaNB s := (va_ver s).2 (by rw [hok, hto, decide_eq_true hg]; rfl)
  have HLL := Kp.mk (show fromB s (vaT s + 1 + vaT2 s + preN blankN (fromB s (vaT s + 1 + vaT2 s))) = vaL s by rw [vaL_eq]; unfold vaGap; rw [← hP, hto])
  have HVV := Kp.mk (show upB s (vaT s) ++ ⟨#[47]⟩ ++ upB (fromB s (vaT s + 1)) (vaT2 s) = vaV s by rw [HJ, hN])
  have htl : ¬ (tlB (vaL s)).size = 0 := by rw [tlB_size]; omega
  have HV := Kp.mk (va_bad2 h0 (show rsB (vaL s) = false by unfold rsB; rw [hp]; rfl))
  have HPLA := Kp.mk (fun w => va_placed_any (byB (vaL s)) w (by rw [byB_size]; have := preN_le vaNB (vaL s); rw [vaL_eq, fromB_size] at *; omega))
  rw [hp] at HPLA
  have HM := Kp.mk hm
  have HLZ := Kp.mk (show (vaL s).size ≤ 900000 by rw [vaL_eq, fromB_size]; omega)
  have HCZ := Kp.mk (fun (L : ByteArray) (h : L.size ≤ 900000) => show (cmB L).size ≤ 900000 by unfold cmB tlB; rw [fromB_size, fromB_size]; omega)
  clear hm hp htl
  have HGP := Kp.mk (show decide (0 < preN blankN (fromB s (vaT s + 1 + vaT2 s))) = true from decide_eq_true hg)
  clear ht hsl hok ht2 hto HJ
  clear hg hok1 hN hP
  go_enter Tryd.func10, Tryd.ntmps10
  go_wp2_with fail
  refine (cur_new s _ (by omega)).mono ?_
  rintro e w1 ⟨rfl, hb, hc⟩
  have W1 := Kp.mk (show VaW s 0 w w1 from ⟨HR0.out.below hb, by simpa using hc, HB0.out.trans (hb.mono HB0.out.size)⟩)
  clear hb hc
  go_wp2_with fail
  refine (HT0.out _ W1.out.cur).mono ?_
  rintro e w2 ⟨rfl, ht⟩
  have W2 := Kp.mk (W1.out.to ht)
  clear ht
  obtain ⟨p1, p2⟩ := HP1.out
  have hu1 := HU1.out
  generalize upB s (vaT s) = V1 at *
  go_wp2_with fail
  refine (cur_byte_yes _ _ _ _ _ W2.out.cur HYES.out.1 HYES.out.2).mono ?_
  rintro e w3a ⟨rfl, ht⟩
  have W3a := Kp.mk (W2.out.to ht)
  clear ht
  go_wp2_with fail
  refine (HT1.out _ W3a.out.cur).mono ?_
  rintro e w3 ⟨rfl, ht⟩
  have W3 := Kp.mk (W3a.out.to ht)
  clear ht
  have hz2 := HZ2.out
  obtain ⟨p3, p4⟩ := HP2.out
  generalize upB (fromB s (vaT s + 1)) (vaT2 s) = V2 at *
  go_wp2_with fail
  refine (cur_skip _ _ _ _ W3.out.cur).mono ?_
  rintro e w4 ⟨rfl, ht⟩
  have W4 := Kp.mk (W3.out.to ht)
  clear ht
  have hgp := HGP.out
  go_wp2_with fail
  refine (cur_left _ _ _ _ W4.out.cur).mono ?_
  rintro e w5 ⟨rfl, hb⟩
  have W5 := Kp.mk (W4.out.below hb)
  clear hb
  have hvv := HVV.out
  generalize V1 ++ ⟨#[47]⟩ ++ V2 = VX at hvv ⊢
  subst hvv
  clear HVV
  generalize vaV s = VV at *
  have hll := HLL.out
  clear hgp HGP HT0 HT1 HLL
  generalize vaT s + 1 + vaT2 s + preN blankN (fromB s (vaT s + 1 + vaT2 s)) = NN at *
  generalize fromB s NN = L0 at hll ⊢
  subst hll
  have hLz := HLZ.out
  have hsp := tlB_size (vaL s)
  generalize vaL s = L at *
  go_wp2_with fail
  refine (va_ia_any L _ (by omega)).mono ?_
  rintro e w6 ⟨rfl, hb⟩
  have W6 := Kp.mk (W5.out.below hb)
  clear hb
  have hm := HM.out
  rw [if_pos hm]
  have HX := Kp.mk (show L.extract (preN vaNB L) L.size = tlB L from rfl)
  have HBY := Kp.mk (show L.extract 0 (preN vaNB L) = byB L from rfl)
  have HNE := Kp.mk (show ((byB L).toList == L.toList) = false by rw [by_ne]; exact decide_eq_false (by omega))
  have HCM := Kp.mk (show fromB (tlB L) (preN blankN (tlB L)) = cmB L from rfl)
  have HBZ := Kp.mk (byB_size L)
  generalize preN vaNB L = m at *
  have j1 : (0 : Int) ≤ (m : Int) := by omega
  have j2 : (m : Int) ≤ (L.size : Int) := by omega
  have j3 : ¬ (m : Int) < 0 := by omega
  have j4 : min m L.size = m := by omega
  clear hsp hm
  go_wp2_with fail
  rw [HX.out]
  refine (va_tl_any _ _).mono ?_
  rintro e w7 ⟨rfl, hb⟩
  have W7 := Kp.mk (W6.out.below hb)
  clear hb
  rw [HCM.out, HBY.out]
  have hby := HNE.out
  have hcz : (cmB L).size ≤ 900000 := HCZ.out L hLz
  generalize byB L = B at *
  generalize cmB L = CM at *
  go_wp2_with fail
  refine (HPLA.out _).mono ?_
  rintro e w8 ⟨rfl, hb⟩
  have W8 := Kp.mk (W7.out.below hb)
  clear hb
  obtain ⟨c0, c1, c2, f0, f1, f2, hl⟩ := vares W8.out.res
  go_wp2_with fail
  exact bodyPost_ret (v := .tuple #[.agg #[.string ⟨#[]⟩, .string ⟨#[]⟩, .string ⟨#[]⟩], .int .i64 3]) (by simp [results, Tryd.results10, go_sem, c0, c1, c2, hl]) rfl ⟨by rw [HV.out.1, HV.out.2] <;> rfl, vabel3 W8.out.bel (Nat.le_refl _) _ _ _⟩
set_option maxRecDepth 100000 in
set_option maxHeartbeats 4000000 in
theorem va_p5b (s : ByteArray) (w : World) (hs : s.size ≤ 900000) (h0 : 0 < s.size) (ht : 0 < vaT s) (hsl : vaHasSl s = true) (ht2 : 0 < vaT2 s) (hg : 0 < preN blankN (fromB s (vaT s + 1 + vaT2 s))) (hm : preN vaNB (vaL s) < (vaL s).size) (hp : vaPl (byB (vaL s)) = true) (hc : cloB (cmB (vaL s)) = false) : Calls Tryd.prog 10 #[.string s] w (RetHp s w) := by
  obtain ⟨n1, n2⟩ := hs_nemp h0
  have hT := preN_le tcharB s
  have HT0 := Kp.mk (fun W (h : CurAt (w.heap.size + 1) s 0 W) => show Calls Tryd.prog 38 #[.pointer (some ⟨w.heap.size + 1, 0, none⟩)] W fun e w' => e = .returned (.string (upB s (vaT s))) ∧ CurTo (w.heap.size + 1) s (vaT s) W w' by
    have := cur_token (w.heap.size + 1) 0 s W h
    rwa [fromB_zero, Nat.zero_add] at this)
  have HT1 := Kp.mk (fun W (h : CurAt (w.heap.size + 1) s (vaT s + 1) W) => show Calls Tryd.prog 38 #[.pointer (some ⟨w.heap.size + 1, 0, none⟩)] W fun e w' => e = .returned (.string (upB (fromB s (vaT s + 1)) (vaT2 s))) ∧ CurTo (w.heap.size + 1) s (vaT s + 1 + vaT2 s) W w' from cur_token (w.heap.size + 1) (vaT s + 1) s W h)
  have HZ2 := Kp.mk (show (upB (fromB s (vaT s + 1)) (vaT2 s)).size ≤ 900000 by rw [upB_size, fromB_size]; omega)
  have HR0 := Kp.mk (Bl.new w 26 #[.string ⟨#[]⟩, .string ⟨#[]⟩, .string ⟨#[]⟩])
  have HB0 := Kp.mk ((Below.refl _ w).alloc (Nat.le_refl _) (.cells #[.string ⟨#[]⟩, .string ⟨#[]⟩, .string ⟨#[]⟩] 26))
  have HP1 := Kp.mk (hs_nemp (x := upB s (vaT s)) (by rw [upB_size]; omega))
  have HU1 := Kp.mk (show (upB s (vaT s)).size ≤ 900000 by rw [upB_size]; omega)
  have HYES := Kp.mk (show vaT s < s.size ∧ (bt s (vaT s) : Int) = 47 from ⟨(va_sl_iff.1 hsl).1, by have := (va_sl_iff.1 hsl).2; omega⟩)
  have HP2 := Kp.mk (hs_nemp (x := upB (fromB s (vaT s + 1)) (vaT2 s)) (by rw [upB_size, fromB_size]; have := preN_le tcharB (fromB s (vaT s + 1)); rw [fromB_size] at this; unfold vaT2 at *; omega))
  have hto : vaTo s = vaT s + 1 + vaT2 s := by unfold vaTo; rw [hsl]; rfl
  have HJ := va_join hsl
  have hok : vaTok s = true := by unfold vaTok; rw [decide_eq_true ht, decide_eq_true ht2]; cases vaHasSl s <;> rfl
  have hok1 : vaOk1 s = true := by rw [vaOk1_eq, hok, hto, decide_eq_true hg]; rfl
  have hN : vaV s = upB s (vaTo s) := by unfold vaV; rw [(va_ver s).2 (by rw [hok, hto, decide_eq_true hg]; rfl)]
  have hP : vaTo s = preN vaNB s := (va_ver s).2 (by rw [hok, hto, decide_eq_true hg]; rfl)
  have HLL := Kp.mk (show fromB s (vaT s + 1 + vaT2 s + preN blankN (fromB s (vaT s + 1 + vaT2 s))) = vaL s by rw [vaL_eq]; unfold vaGap; rw [← hP, hto])
  have HVV := Kp.mk (show upB s (vaT s) ++ ⟨#[47]⟩ ++ upB (fromB s (vaT s + 1)) (vaT2 s) = vaV s by rw [HJ, hN])
  have htl : ¬ (tlB (vaL s)).size = 0 := by rw [tlB_size]; omega
  have HV := Kp.mk (va_bad2 h0 (show rsB (vaL s) = false by unfold rsB; rw [hp, hc, decide_eq_false htl]; rfl))
  have HPLA := Kp.mk (fun w => va_placed_any (byB (vaL s)) w (by rw [byB_size]; have := preN_le vaNB (vaL s); rw [vaL_eq, fromB_size] at *; omega))
  rw [hp] at HPLA
  have HM := Kp.mk hm
  have HLZ := Kp.mk (show (vaL s).size ≤ 900000 by rw [vaL_eq, fromB_size]; omega)
  have HCZ := Kp.mk (fun (L : ByteArray) (h : L.size ≤ 900000) => show (cmB L).size ≤ 900000 by unfold cmB tlB; rw [fromB_size, fromB_size]; omega)
  have HCLA := Kp.mk (fun w => va_closed_any (cmB (vaL s)) w (HCZ.out _ HLZ.out))
  rw [hc] at HCLA
  clear hm hp htl hc
  have HGP := Kp.mk (show decide (0 < preN blankN (fromB s (vaT s + 1 + vaT2 s))) = true from decide_eq_true hg)
  clear ht hsl hok ht2 hto HJ
  clear hg hok1 hN hP
  go_enter Tryd.func10, Tryd.ntmps10
  go_wp2_with fail
  refine (cur_new s _ (by omega)).mono ?_
  rintro e w1 ⟨rfl, hb, hc⟩
  have W1 := Kp.mk (show VaW s 0 w w1 from ⟨HR0.out.below hb, by simpa using hc, HB0.out.trans (hb.mono HB0.out.size)⟩)
  clear hb hc
  go_wp2_with fail
  refine (HT0.out _ W1.out.cur).mono ?_
  rintro e w2 ⟨rfl, ht⟩
  have W2 := Kp.mk (W1.out.to ht)
  clear ht
  obtain ⟨p1, p2⟩ := HP1.out
  have hu1 := HU1.out
  generalize upB s (vaT s) = V1 at *
  go_wp2_with fail
  refine (cur_byte_yes _ _ _ _ _ W2.out.cur HYES.out.1 HYES.out.2).mono ?_
  rintro e w3a ⟨rfl, ht⟩
  have W3a := Kp.mk (W2.out.to ht)
  clear ht
  go_wp2_with fail
  refine (HT1.out _ W3a.out.cur).mono ?_
  rintro e w3 ⟨rfl, ht⟩
  have W3 := Kp.mk (W3a.out.to ht)
  clear ht
  have hz2 := HZ2.out
  obtain ⟨p3, p4⟩ := HP2.out
  generalize upB (fromB s (vaT s + 1)) (vaT2 s) = V2 at *
  go_wp2_with fail
  refine (cur_skip _ _ _ _ W3.out.cur).mono ?_
  rintro e w4 ⟨rfl, ht⟩
  have W4 := Kp.mk (W3.out.to ht)
  clear ht
  have hgp := HGP.out
  go_wp2_with fail
  refine (cur_left _ _ _ _ W4.out.cur).mono ?_
  rintro e w5 ⟨rfl, hb⟩
  have W5 := Kp.mk (W4.out.below hb)
  clear hb
  have hvv := HVV.out
  generalize V1 ++ ⟨#[47]⟩ ++ V2 = VX at hvv ⊢
  subst hvv
  clear HVV
  generalize vaV s = VV at *
  have hll := HLL.out
  clear hgp HGP HT0 HT1 HLL
  generalize vaT s + 1 + vaT2 s + preN blankN (fromB s (vaT s + 1 + vaT2 s)) = NN at *
  generalize fromB s NN = L0 at hll ⊢
  subst hll
  have hLz := HLZ.out
  have hsp := tlB_size (vaL s)
  generalize vaL s = L at *
  go_wp2_with fail
  refine (va_ia_any L _ (by omega)).mono ?_
  rintro e w6 ⟨rfl, hb⟩
  have W6 := Kp.mk (W5.out.below hb)
  clear hb
  have hm := HM.out
  rw [if_pos hm]
  have HX := Kp.mk (show L.extract (preN vaNB L) L.size = tlB L from rfl)
  have HBY := Kp.mk (show L.extract 0 (preN vaNB L) = byB L from rfl)
  have HNE := Kp.mk (show ((byB L).toList == L.toList) = false by rw [by_ne]; exact decide_eq_false (by omega))
  have HCM := Kp.mk (show fromB (tlB L) (preN blankN (tlB L)) = cmB L from rfl)
  have HBZ := Kp.mk (byB_size L)
  generalize preN vaNB L = m at *
  have j1 : (0 : Int) ≤ (m : Int) := by omega
  have j2 : (m : Int) ≤ (L.size : Int) := by omega
  have j3 : ¬ (m : Int) < 0 := by omega
  have j4 : min m L.size = m := by omega
  clear hsp hm
  go_wp2_with fail
  rw [HX.out]
  refine (va_tl_any _ _).mono ?_
  rintro e w7 ⟨rfl, hb⟩
  have W7 := Kp.mk (W6.out.below hb)
  clear hb
  rw [HCM.out, HBY.out]
  have hby := HNE.out
  have hcz : (cmB L).size ≤ 900000 := HCZ.out L hLz
  generalize byB L = B at *
  generalize cmB L = CM at *
  go_wp2_with fail
  refine (HPLA.out _).mono ?_
  rintro e w8 ⟨rfl, hb⟩
  have W8 := Kp.mk (W7.out.below hb)
  clear hb
  go_wp2_with fail
  refine (HCLA.out _).mono ?_
  rintro e w9 ⟨rfl, hb⟩
  have W9 := Kp.mk (W8.out.below hb)
  clear hb
  obtain ⟨c0, c1, c2, f0, f1, f2, hl⟩ := vares W9.out.res
  go_wp2_with fail
  exact bodyPost_ret (v := .tuple #[.agg #[.string ⟨#[]⟩, .string ⟨#[]⟩, .string ⟨#[]⟩], .int .i64 3]) (by simp [results, Tryd.results10, go_sem, c0, c1, c2, hl]) rfl ⟨by rw [HV.out.1, HV.out.2] <;> rfl, vabel3 W9.out.bel (Nat.le_refl _) _ _ _⟩
set_option maxRecDepth 100000 in
set_option maxHeartbeats 4000000 in
theorem va_p5c (s : ByteArray) (w : World) (hs : s.size ≤ 900000) (h0 : 0 < s.size) (ht : 0 < vaT s) (hsl : vaHasSl s = true) (ht2 : 0 < vaT2 s) (hg : 0 < preN blankN (fromB s (vaT s + 1 + vaT2 s))) (hm : preN vaNB (vaL s) < (vaL s).size) (hp : vaPl (byB (vaL s)) = true) (hc : cloB (cmB (vaL s)) = true) : Calls Tryd.prog 10 #[.string s] w (RetHp s w) := by
  obtain ⟨n1, n2⟩ := hs_nemp h0
  have hT := preN_le tcharB s
  have HT0 := Kp.mk (fun W (h : CurAt (w.heap.size + 1) s 0 W) => show Calls Tryd.prog 38 #[.pointer (some ⟨w.heap.size + 1, 0, none⟩)] W fun e w' => e = .returned (.string (upB s (vaT s))) ∧ CurTo (w.heap.size + 1) s (vaT s) W w' by
    have := cur_token (w.heap.size + 1) 0 s W h
    rwa [fromB_zero, Nat.zero_add] at this)
  have HT1 := Kp.mk (fun W (h : CurAt (w.heap.size + 1) s (vaT s + 1) W) => show Calls Tryd.prog 38 #[.pointer (some ⟨w.heap.size + 1, 0, none⟩)] W fun e w' => e = .returned (.string (upB (fromB s (vaT s + 1)) (vaT2 s))) ∧ CurTo (w.heap.size + 1) s (vaT s + 1 + vaT2 s) W w' from cur_token (w.heap.size + 1) (vaT s + 1) s W h)
  have HZ2 := Kp.mk (show (upB (fromB s (vaT s + 1)) (vaT2 s)).size ≤ 900000 by rw [upB_size, fromB_size]; omega)
  have HR0 := Kp.mk (Bl.new w 26 #[.string ⟨#[]⟩, .string ⟨#[]⟩, .string ⟨#[]⟩])
  have HB0 := Kp.mk ((Below.refl _ w).alloc (Nat.le_refl _) (.cells #[.string ⟨#[]⟩, .string ⟨#[]⟩, .string ⟨#[]⟩] 26))
  have HP1 := Kp.mk (hs_nemp (x := upB s (vaT s)) (by rw [upB_size]; omega))
  have HU1 := Kp.mk (show (upB s (vaT s)).size ≤ 900000 by rw [upB_size]; omega)
  have HYES := Kp.mk (show vaT s < s.size ∧ (bt s (vaT s) : Int) = 47 from ⟨(va_sl_iff.1 hsl).1, by have := (va_sl_iff.1 hsl).2; omega⟩)
  have HP2 := Kp.mk (hs_nemp (x := upB (fromB s (vaT s + 1)) (vaT2 s)) (by rw [upB_size, fromB_size]; have := preN_le tcharB (fromB s (vaT s + 1)); rw [fromB_size] at this; unfold vaT2 at *; omega))
  have hto : vaTo s = vaT s + 1 + vaT2 s := by unfold vaTo; rw [hsl]; rfl
  have HJ := va_join hsl
  have hok : vaTok s = true := by unfold vaTok; rw [decide_eq_true ht, decide_eq_true ht2]; cases vaHasSl s <;> rfl
  have hok1 : vaOk1 s = true := by rw [vaOk1_eq, hok, hto, decide_eq_true hg]; rfl
  have hN : vaV s = upB s (vaTo s) := by unfold vaV; rw [(va_ver s).2 (by rw [hok, hto, decide_eq_true hg]; rfl)]
  have hP : vaTo s = preN vaNB s := (va_ver s).2 (by rw [hok, hto, decide_eq_true hg]; rfl)
  have HLL := Kp.mk (show fromB s (vaT s + 1 + vaT2 s + preN blankN (fromB s (vaT s + 1 + vaT2 s))) = vaL s by rw [vaL_eq]; unfold vaGap; rw [← hP, hto])
  have HVV := Kp.mk (show upB s (vaT s) ++ ⟨#[47]⟩ ++ upB (fromB s (vaT s + 1)) (vaT2 s) = vaV s by rw [HJ, hN])
  have htl : ¬ (tlB (vaL s)).size = 0 := by rw [tlB_size]; omega
  have HV := Kp.mk (va_good h0 hok1 (show rsB (vaL s) = true by unfold rsB; rw [hp, hc]; simp))
  have HPLA := Kp.mk (fun w => va_placed_any (byB (vaL s)) w (by rw [byB_size]; have := preN_le vaNB (vaL s); rw [vaL_eq, fromB_size] at *; omega))
  rw [hp] at HPLA
  have HM := Kp.mk hm
  have HLZ := Kp.mk (show (vaL s).size ≤ 900000 by rw [vaL_eq, fromB_size]; omega)
  have HCZ := Kp.mk (fun (L : ByteArray) (h : L.size ≤ 900000) => show (cmB L).size ≤ 900000 by unfold cmB tlB; rw [fromB_size, fromB_size]; omega)
  have HCLA := Kp.mk (fun w => va_closed_any (cmB (vaL s)) w (HCZ.out _ HLZ.out))
  rw [hc] at HCLA
  clear hm hp htl hc
  have HGP := Kp.mk (show decide (0 < preN blankN (fromB s (vaT s + 1 + vaT2 s))) = true from decide_eq_true hg)
  clear ht hsl hok ht2 hto HJ
  clear hg hok1 hN hP
  go_enter Tryd.func10, Tryd.ntmps10
  go_wp2_with fail
  refine (cur_new s _ (by omega)).mono ?_
  rintro e w1 ⟨rfl, hb, hc⟩
  have W1 := Kp.mk (show VaW s 0 w w1 from ⟨HR0.out.below hb, by simpa using hc, HB0.out.trans (hb.mono HB0.out.size)⟩)
  clear hb hc
  go_wp2_with fail
  refine (HT0.out _ W1.out.cur).mono ?_
  rintro e w2 ⟨rfl, ht⟩
  have W2 := Kp.mk (W1.out.to ht)
  clear ht
  obtain ⟨p1, p2⟩ := HP1.out
  have hu1 := HU1.out
  generalize upB s (vaT s) = V1 at *
  go_wp2_with fail
  refine (cur_byte_yes _ _ _ _ _ W2.out.cur HYES.out.1 HYES.out.2).mono ?_
  rintro e w3a ⟨rfl, ht⟩
  have W3a := Kp.mk (W2.out.to ht)
  clear ht
  go_wp2_with fail
  refine (HT1.out _ W3a.out.cur).mono ?_
  rintro e w3 ⟨rfl, ht⟩
  have W3 := Kp.mk (W3a.out.to ht)
  clear ht
  have hz2 := HZ2.out
  obtain ⟨p3, p4⟩ := HP2.out
  generalize upB (fromB s (vaT s + 1)) (vaT2 s) = V2 at *
  go_wp2_with fail
  refine (cur_skip _ _ _ _ W3.out.cur).mono ?_
  rintro e w4 ⟨rfl, ht⟩
  have W4 := Kp.mk (W3.out.to ht)
  clear ht
  have hgp := HGP.out
  go_wp2_with fail
  refine (cur_left _ _ _ _ W4.out.cur).mono ?_
  rintro e w5 ⟨rfl, hb⟩
  have W5 := Kp.mk (W4.out.below hb)
  clear hb
  have hvv := HVV.out
  generalize V1 ++ ⟨#[47]⟩ ++ V2 = VX at hvv ⊢
  subst hvv
  clear HVV
  generalize vaV s = VV at *
  have hll := HLL.out
  clear hgp HGP HT0 HT1 HLL
  generalize vaT s + 1 + vaT2 s + preN blankN (fromB s (vaT s + 1 + vaT2 s)) = NN at *
  generalize fromB s NN = L0 at hll ⊢
  subst hll
  have hLz := HLZ.out
  have hsp := tlB_size (vaL s)
  generalize vaL s = L at *
  go_wp2_with fail
  refine (va_ia_any L _ (by omega)).mono ?_
  rintro e w6 ⟨rfl, hb⟩
  have W6 := Kp.mk (W5.out.below hb)
  clear hb
  have hm := HM.out
  rw [if_pos hm]
  have HX := Kp.mk (show L.extract (preN vaNB L) L.size = tlB L from rfl)
  have HBY := Kp.mk (show L.extract 0 (preN vaNB L) = byB L from rfl)
  have HNE := Kp.mk (show ((byB L).toList == L.toList) = false by rw [by_ne]; exact decide_eq_false (by omega))
  have HCM := Kp.mk (show fromB (tlB L) (preN blankN (tlB L)) = cmB L from rfl)
  have HBZ := Kp.mk (byB_size L)
  generalize preN vaNB L = m at *
  have j1 : (0 : Int) ≤ (m : Int) := by omega
  have j2 : (m : Int) ≤ (L.size : Int) := by omega
  have j3 : ¬ (m : Int) < 0 := by omega
  have j4 : min m L.size = m := by omega
  clear hsp hm
  go_wp2_with fail
  rw [HX.out]
  refine (va_tl_any _ _).mono ?_
  rintro e w7 ⟨rfl, hb⟩
  have W7 := Kp.mk (W6.out.below hb)
  clear hb
  rw [HCM.out, HBY.out]
  have hby := HNE.out
  have hcz : (cmB L).size ≤ 900000 := HCZ.out L hLz
  generalize byB L = B at *
  generalize cmB L = CM at *
  go_wp2_with fail
  refine (HPLA.out _).mono ?_
  rintro e w8 ⟨rfl, hb⟩
  have W8 := Kp.mk (W7.out.below hb)
  clear hb
  go_wp2_with fail
  refine (HCLA.out _).mono ?_
  rintro e w9 ⟨rfl, hb⟩
  have W9 := Kp.mk (W8.out.below hb)
  clear hb
  obtain ⟨c0, c1, c2, f0, f1, f2, hl⟩ := vares W9.out.res
  go_wp2_with fail
  exact bodyPost_ret (v := .tuple #[.agg #[.string VV, .string B, .string CM], .int .i64 0]) (by simp [results, Tryd.results10, go_sem, c0, c1, c2, hl]) rfl ⟨by rw [HV.out.1, HV.out.2] <;> rfl, vabel3 W9.out.bel (Nat.le_refl _) _ _ _⟩
set_option maxRecDepth 100000 in
set_option maxHeartbeats 4000000 in
theorem va_p5d (s : ByteArray) (w : World) (hs : s.size ≤ 900000) (h0 : 0 < s.size) (ht : 0 < vaT s) (hsl : vaHasSl s = true) (ht2 : 0 < vaT2 s) (hg : 0 < preN blankN (fromB s (vaT s + 1 + vaT2 s))) (hm : ¬ preN vaNB (vaL s) < (vaL s).size) (hp : vaPl (vaL s) = false) : Calls Tryd.prog 10 #[.string s] w (RetHp s w) := by
  obtain ⟨n1, n2⟩ := hs_nemp h0
  have hT := preN_le tcharB s
  have HT0 := Kp.mk (fun W (h : CurAt (w.heap.size + 1) s 0 W) => show Calls Tryd.prog 38 #[.pointer (some ⟨w.heap.size + 1, 0, none⟩)] W fun e w' => e = .returned (.string (upB s (vaT s))) ∧ CurTo (w.heap.size + 1) s (vaT s) W w' by
    have := cur_token (w.heap.size + 1) 0 s W h
    rwa [fromB_zero, Nat.zero_add] at this)
  have HT1 := Kp.mk (fun W (h : CurAt (w.heap.size + 1) s (vaT s + 1) W) => show Calls Tryd.prog 38 #[.pointer (some ⟨w.heap.size + 1, 0, none⟩)] W fun e w' => e = .returned (.string (upB (fromB s (vaT s + 1)) (vaT2 s))) ∧ CurTo (w.heap.size + 1) s (vaT s + 1 + vaT2 s) W w' from cur_token (w.heap.size + 1) (vaT s + 1) s W h)
  have HZ2 := Kp.mk (show (upB (fromB s (vaT s + 1)) (vaT2 s)).size ≤ 900000 by rw [upB_size, fromB_size]; omega)
  have HR0 := Kp.mk (Bl.new w 26 #[.string ⟨#[]⟩, .string ⟨#[]⟩, .string ⟨#[]⟩])
  have HB0 := Kp.mk ((Below.refl _ w).alloc (Nat.le_refl _) (.cells #[.string ⟨#[]⟩, .string ⟨#[]⟩, .string ⟨#[]⟩] 26))
  have HP1 := Kp.mk (hs_nemp (x := upB s (vaT s)) (by rw [upB_size]; omega))
  have HU1 := Kp.mk (show (upB s (vaT s)).size ≤ 900000 by rw [upB_size]; omega)
  have HYES := Kp.mk (show vaT s < s.size ∧ (bt s (vaT s) : Int) = 47 from ⟨(va_sl_iff.1 hsl).1, by have := (va_sl_iff.1 hsl).2; omega⟩)
  have HP2 := Kp.mk (hs_nemp (x := upB (fromB s (vaT s + 1)) (vaT2 s)) (by rw [upB_size, fromB_size]; have := preN_le tcharB (fromB s (vaT s + 1)); rw [fromB_size] at this; unfold vaT2 at *; omega))
  have hto : vaTo s = vaT s + 1 + vaT2 s := by unfold vaTo; rw [hsl]; rfl
  have HJ := va_join hsl
  have hok : vaTok s = true := by unfold vaTok; rw [decide_eq_true ht, decide_eq_true ht2]; cases vaHasSl s <;> rfl
  have hok1 : vaOk1 s = true := by rw [vaOk1_eq, hok, hto, decide_eq_true hg]; rfl
  have hN : vaV s = upB s (vaTo s) := by unfold vaV; rw [(va_ver s).2 (by rw [hok, hto, decide_eq_true hg]; rfl)]
  have hP : vaTo s = preN vaNB s := (va_ver s).2 (by rw [hok, hto, decide_eq_true hg]; rfl)
  have HLL := Kp.mk (show fromB s (vaT s + 1 + vaT2 s + preN blankN (fromB s (vaT s + 1 + vaT2 s))) = vaL s by rw [vaL_eq]; unfold vaGap; rw [← hP, hto])
  have HVV := Kp.mk (show upB s (vaT s) ++ ⟨#[47]⟩ ++ upB (fromB s (vaT s + 1)) (vaT2 s) = vaV s by rw [HJ, hN])
  have htl : (tlB (vaL s)).size = 0 := by rw [tlB_size]; have := preN_le vaNB (vaL s); omega
  have hbl := byB_all hm
  have HV := Kp.mk (va_bad2 h0 (show rsB (vaL s) = false by unfold rsB; rw [hbl, hp]; rfl))
  have HPLA := Kp.mk (fun w => va_placed_any (vaL s) w (by rw [vaL_eq, fromB_size]; omega))
  rw [hp] at HPLA
  have HM := Kp.mk hm
  have HLZ := Kp.mk (show (vaL s).size ≤ 900000 by rw [vaL_eq, fromB_size]; omega)
  have HCZ := Kp.mk (fun (L : ByteArray) (h : L.size ≤ 900000) => show (cmB L).size ≤ 900000 by unfold cmB tlB; rw [fromB_size, fromB_size]; omega)
  clear hm hp htl hbl
  have HGP := Kp.mk (show decide (0 < preN blankN (fromB s (vaT s + 1 + vaT2 s))) = true from decide_eq_true hg)
  clear ht hsl hok ht2 hto HJ
  clear hg hok1 hN hP
  go_enter Tryd.func10, Tryd.ntmps10
  go_wp2_with fail
  refine (cur_new s _ (by omega)).mono ?_
  rintro e w1 ⟨rfl, hb, hc⟩
  have W1 := Kp.mk (show VaW s 0 w w1 from ⟨HR0.out.below hb, by simpa using hc, HB0.out.trans (hb.mono HB0.out.size)⟩)
  clear hb hc
  go_wp2_with fail
  refine (HT0.out _ W1.out.cur).mono ?_
  rintro e w2 ⟨rfl, ht⟩
  have W2 := Kp.mk (W1.out.to ht)
  clear ht
  obtain ⟨p1, p2⟩ := HP1.out
  have hu1 := HU1.out
  generalize upB s (vaT s) = V1 at *
  go_wp2_with fail
  refine (cur_byte_yes _ _ _ _ _ W2.out.cur HYES.out.1 HYES.out.2).mono ?_
  rintro e w3a ⟨rfl, ht⟩
  have W3a := Kp.mk (W2.out.to ht)
  clear ht
  go_wp2_with fail
  refine (HT1.out _ W3a.out.cur).mono ?_
  rintro e w3 ⟨rfl, ht⟩
  have W3 := Kp.mk (W3a.out.to ht)
  clear ht
  have hz2 := HZ2.out
  obtain ⟨p3, p4⟩ := HP2.out
  generalize upB (fromB s (vaT s + 1)) (vaT2 s) = V2 at *
  go_wp2_with fail
  refine (cur_skip _ _ _ _ W3.out.cur).mono ?_
  rintro e w4 ⟨rfl, ht⟩
  have W4 := Kp.mk (W3.out.to ht)
  clear ht
  have hgp := HGP.out
  go_wp2_with fail
  refine (cur_left _ _ _ _ W4.out.cur).mono ?_
  rintro e w5 ⟨rfl, hb⟩
  have W5 := Kp.mk (W4.out.below hb)
  clear hb
  have hvv := HVV.out
  generalize V1 ++ ⟨#[47]⟩ ++ V2 = VX at hvv ⊢
  subst hvv
  clear HVV
  generalize vaV s = VV at *
  have hll := HLL.out
  clear hgp HGP HT0 HT1 HLL
  generalize vaT s + 1 + vaT2 s + preN blankN (fromB s (vaT s + 1 + vaT2 s)) = NN at *
  generalize fromB s NN = L0 at hll ⊢
  subst hll
  have hLz := HLZ.out
  have hsp := tlB_size (vaL s)
  generalize vaL s = L at *
  go_wp2_with fail
  refine (va_ia_any L _ (by omega)).mono ?_
  rintro e w6 ⟨rfl, hb⟩
  have W6 := Kp.mk (W5.out.below hb)
  clear hb
  have hm := HM.out
  rw [if_neg hm]
  have j1 : (L.size : Int) ≤ (L.size : Int) := Int.le_refl _
  have j2 : (L.toList == L.toList) = true := by simp
  clear hsp hm
  go_wp2_with fail
  refine (va_tl_any _ _).mono ?_
  rintro e w7 ⟨rfl, hb⟩
  rw [va_ee]
  have W7 := Kp.mk (W6.out.below hb)
  clear hb
  go_wp2_with fail
  refine (HPLA.out _).mono ?_
  rintro e w8 ⟨rfl, hb⟩
  have W8 := Kp.mk (W7.out.below hb)
  clear hb
  obtain ⟨c0, c1, c2, f0, f1, f2, hl⟩ := vares W8.out.res
  go_wp2_with fail
  exact bodyPost_ret (v := .tuple #[.agg #[.string ⟨#[]⟩, .string ⟨#[]⟩, .string ⟨#[]⟩], .int .i64 3]) (by simp [results, Tryd.results10, go_sem, c0, c1, c2, hl]) rfl ⟨by rw [HV.out.1, HV.out.2] <;> rfl, vabel3 W8.out.bel (Nat.le_refl _) _ _ _⟩
set_option maxRecDepth 100000 in
set_option maxHeartbeats 4000000 in
theorem va_p5e (s : ByteArray) (w : World) (hs : s.size ≤ 900000) (h0 : 0 < s.size) (ht : 0 < vaT s) (hsl : vaHasSl s = true) (ht2 : 0 < vaT2 s) (hg : 0 < preN blankN (fromB s (vaT s + 1 + vaT2 s))) (hm : ¬ preN vaNB (vaL s) < (vaL s).size) (hp : vaPl (vaL s) = true) : Calls Tryd.prog 10 #[.string s] w (RetHp s w) := by
  obtain ⟨n1, n2⟩ := hs_nemp h0
  have hT := preN_le tcharB s
  have HT0 := Kp.mk (fun W (h : CurAt (w.heap.size + 1) s 0 W) => show Calls Tryd.prog 38 #[.pointer (some ⟨w.heap.size + 1, 0, none⟩)] W fun e w' => e = .returned (.string (upB s (vaT s))) ∧ CurTo (w.heap.size + 1) s (vaT s) W w' by
    have := cur_token (w.heap.size + 1) 0 s W h
    rwa [fromB_zero, Nat.zero_add] at this)
  have HT1 := Kp.mk (fun W (h : CurAt (w.heap.size + 1) s (vaT s + 1) W) => show Calls Tryd.prog 38 #[.pointer (some ⟨w.heap.size + 1, 0, none⟩)] W fun e w' => e = .returned (.string (upB (fromB s (vaT s + 1)) (vaT2 s))) ∧ CurTo (w.heap.size + 1) s (vaT s + 1 + vaT2 s) W w' from cur_token (w.heap.size + 1) (vaT s + 1) s W h)
  have HZ2 := Kp.mk (show (upB (fromB s (vaT s + 1)) (vaT2 s)).size ≤ 900000 by rw [upB_size, fromB_size]; omega)
  have HR0 := Kp.mk (Bl.new w 26 #[.string ⟨#[]⟩, .string ⟨#[]⟩, .string ⟨#[]⟩])
  have HB0 := Kp.mk ((Below.refl _ w).alloc (Nat.le_refl _) (.cells #[.string ⟨#[]⟩, .string ⟨#[]⟩, .string ⟨#[]⟩] 26))
  have HP1 := Kp.mk (hs_nemp (x := upB s (vaT s)) (by rw [upB_size]; omega))
  have HU1 := Kp.mk (show (upB s (vaT s)).size ≤ 900000 by rw [upB_size]; omega)
  have HYES := Kp.mk (show vaT s < s.size ∧ (bt s (vaT s) : Int) = 47 from ⟨(va_sl_iff.1 hsl).1, by have := (va_sl_iff.1 hsl).2; omega⟩)
  have HP2 := Kp.mk (hs_nemp (x := upB (fromB s (vaT s + 1)) (vaT2 s)) (by rw [upB_size, fromB_size]; have := preN_le tcharB (fromB s (vaT s + 1)); rw [fromB_size] at this; unfold vaT2 at *; omega))
  have hto : vaTo s = vaT s + 1 + vaT2 s := by unfold vaTo; rw [hsl]; rfl
  have HJ := va_join hsl
  have hok : vaTok s = true := by unfold vaTok; rw [decide_eq_true ht, decide_eq_true ht2]; cases vaHasSl s <;> rfl
  have hok1 : vaOk1 s = true := by rw [vaOk1_eq, hok, hto, decide_eq_true hg]; rfl
  have hN : vaV s = upB s (vaTo s) := by unfold vaV; rw [(va_ver s).2 (by rw [hok, hto, decide_eq_true hg]; rfl)]
  have hP : vaTo s = preN vaNB s := (va_ver s).2 (by rw [hok, hto, decide_eq_true hg]; rfl)
  have HLL := Kp.mk (show fromB s (vaT s + 1 + vaT2 s + preN blankN (fromB s (vaT s + 1 + vaT2 s))) = vaL s by rw [vaL_eq]; unfold vaGap; rw [← hP, hto])
  have HVV := Kp.mk (show upB s (vaT s) ++ ⟨#[47]⟩ ++ upB (fromB s (vaT s + 1)) (vaT2 s) = vaV s by rw [HJ, hN])
  have htl : (tlB (vaL s)).size = 0 := by rw [tlB_size]; have := preN_le vaNB (vaL s); omega
  have hbl := byB_all hm
  have HV := Kp.mk (show vaR s = (vaV s, vaL s, ⟨#[]⟩) ∧ vaE s = 0 by
    have := va_good h0 hok1 (show rsB (vaL s) = true by unfold rsB; rw [hbl, hp, decide_eq_true htl]; rfl)
    rw [hbl, cm_none htl] at this
    exact this)
  have HPLA := Kp.mk (fun w => va_placed_any (vaL s) w (by rw [vaL_eq, fromB_size]; omega))
  rw [hp] at HPLA
  have HM := Kp.mk hm
  have HLZ := Kp.mk (show (vaL s).size ≤ 900000 by rw [vaL_eq, fromB_size]; omega)
  have HCZ := Kp.mk (fun (L : ByteArray) (h : L.size ≤ 900000) => show (cmB L).size ≤ 900000 by unfold cmB tlB; rw [fromB_size, fromB_size]; omega)
  clear hm hp htl hbl
  have HGP := Kp.mk (show decide (0 < preN blankN (fromB s (vaT s + 1 + vaT2 s))) = true from decide_eq_true hg)
  clear ht hsl hok ht2 hto HJ
  clear hg hok1 hN hP
  go_enter Tryd.func10, Tryd.ntmps10
  go_wp2_with fail
  refine (cur_new s _ (by omega)).mono ?_
  rintro e w1 ⟨rfl, hb, hc⟩
  have W1 := Kp.mk (show VaW s 0 w w1 from ⟨HR0.out.below hb, by simpa using hc, HB0.out.trans (hb.mono HB0.out.size)⟩)
  clear hb hc
  go_wp2_with fail
  refine (HT0.out _ W1.out.cur).mono ?_
  rintro e w2 ⟨rfl, ht⟩
  have W2 := Kp.mk (W1.out.to ht)
  clear ht
  obtain ⟨p1, p2⟩ := HP1.out
  have hu1 := HU1.out
  generalize upB s (vaT s) = V1 at *
  go_wp2_with fail
  refine (cur_byte_yes _ _ _ _ _ W2.out.cur HYES.out.1 HYES.out.2).mono ?_
  rintro e w3a ⟨rfl, ht⟩
  have W3a := Kp.mk (W2.out.to ht)
  clear ht
  go_wp2_with fail
  refine (HT1.out _ W3a.out.cur).mono ?_
  rintro e w3 ⟨rfl, ht⟩
  have W3 := Kp.mk (W3a.out.to ht)
  clear ht
  have hz2 := HZ2.out
  obtain ⟨p3, p4⟩ := HP2.out
  generalize upB (fromB s (vaT s + 1)) (vaT2 s) = V2 at *
  go_wp2_with fail
  refine (cur_skip _ _ _ _ W3.out.cur).mono ?_
  rintro e w4 ⟨rfl, ht⟩
  have W4 := Kp.mk (W3.out.to ht)
  clear ht
  have hgp := HGP.out
  go_wp2_with fail
  refine (cur_left _ _ _ _ W4.out.cur).mono ?_
  rintro e w5 ⟨rfl, hb⟩
  have W5 := Kp.mk (W4.out.below hb)
  clear hb
  have hvv := HVV.out
  generalize V1 ++ ⟨#[47]⟩ ++ V2 = VX at hvv ⊢
  subst hvv
  clear HVV
  generalize vaV s = VV at *
  have hll := HLL.out
  clear hgp HGP HT0 HT1 HLL
  generalize vaT s + 1 + vaT2 s + preN blankN (fromB s (vaT s + 1 + vaT2 s)) = NN at *
  generalize fromB s NN = L0 at hll ⊢
  subst hll
  have hLz := HLZ.out
  have hsp := tlB_size (vaL s)
  generalize vaL s = L at *
  go_wp2_with fail
  refine (va_ia_any L _ (by omega)).mono ?_
  rintro e w6 ⟨rfl, hb⟩
  have W6 := Kp.mk (W5.out.below hb)
  clear hb
  have hm := HM.out
  rw [if_neg hm]
  have j1 : (L.size : Int) ≤ (L.size : Int) := Int.le_refl _
  have j2 : (L.toList == L.toList) = true := by simp
  clear hsp hm
  go_wp2_with fail
  refine (va_tl_any _ _).mono ?_
  rintro e w7 ⟨rfl, hb⟩
  rw [va_ee]
  have W7 := Kp.mk (W6.out.below hb)
  clear hb
  go_wp2_with fail
  refine (HPLA.out _).mono ?_
  rintro e w8 ⟨rfl, hb⟩
  have W8 := Kp.mk (W7.out.below hb)
  clear hb
  obtain ⟨c0, c1, c2, f0, f1, f2, hl⟩ := vares W8.out.res
  go_wp2_with fail
  exact bodyPost_ret (v := .tuple #[.agg #[.string VV, .string L, .string ⟨#[]⟩], .int .i64 0]) (by simp [results, Tryd.results10, go_sem, c0, c1, c2, hl]) rfl ⟨by rw [HV.out.1, HV.out.2] <;> rfl, vabel3 W8.out.bel (Nat.le_refl _) _ _ _⟩
theorem va_parse_any (s : ByteArray) (w : World) (hs : s.size ≤ 900000) : Calls Tryd.prog 10 #[.string s] w (RetHp s w) := by
  by_cases h0 : 0 < s.size
  · by_cases ht : 0 < vaT s
    · cases hsl : vaHasSl s
      · by_cases hg : 0 < preN blankN (fromB s (vaT s))
        · by_cases hm : preN vaNB (vaL s) < (vaL s).size
          · cases hp : vaPl (byB (vaL s))
            · exact va_p3a s w hs h0 ht hsl hg hm hp
            · cases hc : cloB (cmB (vaL s))
              · exact va_p3b s w hs h0 ht hsl hg hm hp hc
              · exact va_p3c s w hs h0 ht hsl hg hm hp hc
          · cases hp : vaPl (vaL s)
            · exact va_p3d s w hs h0 ht hsl hg hm hp
            · exact va_p3e s w hs h0 ht hsl hg hm hp
        · exact va_p3z s w hs h0 ht hsl (by omega)
      · by_cases ht2 : 0 < vaT2 s
        · by_cases hg : 0 < preN blankN (fromB s (vaT s + 1 + vaT2 s))
          · by_cases hm : preN vaNB (vaL s) < (vaL s).size
            · cases hp : vaPl (byB (vaL s))
              · exact va_p5a s w hs h0 ht hsl ht2 hg hm hp
              · cases hc : cloB (cmB (vaL s))
                · exact va_p5b s w hs h0 ht hsl ht2 hg hm hp hc
                · exact va_p5c s w hs h0 ht hsl ht2 hg hm hp hc
            · cases hp : vaPl (vaL s)
              · exact va_p5d s w hs h0 ht hsl ht2 hg hm hp
              · exact va_p5e s w hs h0 ht hsl ht2 hg hm hp
          · exact va_p5z s w hs h0 ht hsl ht2 (by omega)
        · exact va_p4 s w hs h0 ht hsl (by omega)
    · cases hsl : vaHasSl s
      · exact va_p1 s w hs h0 (by omega) hsl
      · exact va_p2 s w hs h0 (by omega) hsl
  · obtain rfl := hs_emp h0
    have HR := Kp.mk (show vaR ⟨#[]⟩ = (⟨#[]⟩, ⟨#[]⟩, ⟨#[]⟩) ∧ vaE ⟨#[]⟩ = 2 from ⟨rfl, rfl⟩)
    go_enter Tryd.func10, Tryd.ntmps10
    go_wp2_with fail
    exact bodyPost_ret (v := .tuple #[.agg #[.string ⟨#[]⟩, .string ⟨#[]⟩, .string ⟨#[]⟩], .int .i64 2]) (by simp [results, Tryd.results10, go_sem]) rfl ⟨by rw [HR.out.1, HR.out.2] <;> rfl, (Below.refl _ _).alloc (Nat.le_refl _) _⟩
end Go.Proofs.YtkfpioadimkogaaDoor
