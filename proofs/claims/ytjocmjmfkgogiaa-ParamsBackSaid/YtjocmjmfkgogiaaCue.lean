/- Texts read from their beginning: quoted texts. -/
import Derived.Test.YtjocmjmfkgogiaaCud
namespace Go.Proofs.Ytjocmjmfkgogiaa
open Go.RowKit
set_option linter.unusedVariables false
set_option linter.unusedSimpArgs false

theorem qread_q {c : UInt8} {r acc : List UInt8} {n : Nat} (h : c.toNat = 34) : qread (c :: r) acc n = some (acc, n + 1) := by
  cases r <;> unfold qread <;> rw [if_pos h]
theorem qread_esc {c d : UInt8} {r acc : List UInt8} {n : Nat} (h : c.toNat = 92) (hd : valueB d.toNat = true) : qread (c :: d :: r) acc n = qread r (acc ++ [d]) (n + 2) := by
  rw [qread, if_neg (by omega), if_pos h, if_pos hd]
theorem qread_esc_no {c d : UInt8} {r acc : List UInt8} {n : Nat} (h : c.toNat = 92) (hd : valueB d.toNat = false) : qread (c :: d :: r) acc n = none := by
  rw [qread, if_neg (by omega), if_pos h, if_neg (by rw [hd]; decide)]
theorem qread_esc_end {c : UInt8} {acc : List UInt8} {n : Nat} (h : c.toNat = 92) : qread [c] acc n = none := by
  rw [qread, if_neg (by omega)]
theorem qread_plain {c : UInt8} {r acc : List UInt8} {n : Nat} (h1 : c.toNat ≠ 34) (h2 : c.toNat ≠ 92) (hd : valueB c.toNat = true) : qread (c :: r) acc n = qread r (acc ++ [c]) (n + 1) := by
  cases r with
  | nil => show (if c.toNat = 34 then _ else none) = _; rw [if_neg h1]; rfl
  | cons d r => rw [qread, if_neg h1, if_neg h2, if_pos hd]
theorem qread_plain_no {c : UInt8} {r acc : List UInt8} {n : Nat} (h1 : c.toNat ≠ 34) (h2 : c.toNat ≠ 92) (hd : valueB c.toNat = false) : qread (c :: r) acc n = none := by
  cases r with
  | nil => rw [qread, if_neg h1]
  | cons d r => rw [qread, if_neg h1, if_neg h2, if_neg (by rw [hd]; decide)]
theorem drop_at (x : ByteArray) (k : Nat) (h : k < x.size) : x.data.toList.drop k = x[k] :: x.data.toList.drop (k + 1) := by
  rw [List.drop_eq_getElem_cons (by rw [← ba_size]; exact h)]; rfl
theorem quoted_some {x : ByteArray} {l : List UInt8} {m : Nat} (h : quotedL x.data.toList = some (l, m)) : quotedS x = ⟨l.toArray⟩ ∧ quotedN x = m := by
  unfold quotedS quotedN; rw [h]; exact ⟨rfl, rfl⟩
theorem quoted_none {x : ByteArray} (h : quotedL x.data.toList = none) : quotedS x = ⟨#[]⟩ ∧ quotedN x = 0 := by
  unfold quotedS quotedN; rw [h]; exact ⟨rfl, rfl⟩
theorem quotedL_emp {x : ByteArray} (h : x.size = 0) : quotedL x.data.toList = none := by
  have : x.data.toList = [] := by rw [← List.length_eq_zero_iff, ← ba_size]; exact h
  rw [this]; rfl
theorem quotedL_no {x : ByteArray} (h : 0 < x.size) (hc : bt x 0 ≠ 34) : quotedL x.data.toList = none := by
  have e := drop_at x 0 h
  rw [List.drop_zero] at e
  rw [e, quotedL, if_neg (by rw [bt_at]; exact hc)]
theorem quotedL_yes {x : ByteArray} (h : 0 < x.size) (hc : bt x 0 = 34) : quotedL x.data.toList = qread (x.data.toList.drop 1) [] 1 := by
  have e := drop_at x 0 h
  rw [List.drop_zero] at e
  rw [e, quotedL, if_pos (by rw [bt_at]; exact hc)]
  simp
theorem one_size (x : ByteArray) (k : Nat) (h : k < x.size) : (x.extract k (k + 1)).data.toList = [x[k]] := by
  rw [Lib.extract_data, drop_at x k h]; simp
theorem allB_one (x : ByteArray) (k : Nat) (h : k < x.size) : allB valueB (x.extract k (k + 1)) = valueB (bt x k) := by
  unfold allB; rw [one_size x k h]; simp [bt_at]

theorem own_below {w w' : World} {base : Nat} {e : TypeId} {size : Nat} {v : Value} {n : Nat} {xs : List Value} (h : w.ownsRow base e size v n xs) (hb : Below w.heap.size w w') : w'.ownsRow base e size v n xs :=
  h.kept (row := none) ⟨hb.os, hb.tape, hb.output, hb.size, fun k hk _ => hb.block k hk⟩ (by cases v.ownBlock <;> simp)

set_option maxRecDepth 100000 in
set_option maxHeartbeats 4000000 in
theorem cur_quoted (b n : Nat) (s : ByteArray) (w : World) (h : CurAt b s n w) (hs : s.size ≤ 140737488351232) :
    Calls Try.prog 22 #[.pointer (some ⟨b, 0, none⟩)] w fun e w' => e = .returned (.tuple #[.string (quotedS (fromB s n)), .bool (decide (0 < quotedN (fromB s n)))]) ∧ CurTo b s (n + quotedN (fromB s n)) w w' := by
  have HC := Lib.hid h
  have hsz := fromB_size s n
  have h4 := h.le
  clear h
  have hx140 : (fromB s n).size ≤ 140737488351232 := by omega
  have hns : n + (fromB s n).size = s.size := by omega
  have HNS := Lib.hid hns
  clear hsz hns
  obtain ⟨x, hx⟩ : ∃ x, x = fromB s n := ⟨_, rfl⟩
  have HX := Lib.hid hx
  rw [← hx] at hx140 HNS
  clear hx
  by_cases h0 : x.size = 0
  · have hq := quoted_none (quotedL_emp h0)
    have HQ := Lib.hid hq
    have he : x.toList = [] := by rw [ByteArray.toList_eq, ← List.length_eq_zero_iff, ← ba_size]; exact h0
    clear hq h0
    go_enter Try.func22, Try.ntmps22
    go_wp2_with fail
    refine (cur_left _ _ _ _ HC.out).mono ?_
    rintro e w1 ⟨rfl, hb1⟩
    rw [← HX.out]
    go_wp2_with fail
    go_ret2
    refine ⟨by rw [← HX.out, HQ.out.1, HQ.out.2]; rfl, But.of hb1, ?_⟩
    rw [← HX.out, HQ.out.2]
    exact HC.out.kept hb1
  · have hp : 0 < x.size := by omega
    have he : x.toList.isEmpty = false := by rw [emp_iff, decide_eq_false_iff_not]; omega
    clear h0
    by_cases h34 : bt x 0 = 34
    · have hq := quotedL_yes hp h34
      have HQ := Lib.hid hq
      have hx2 : ((x[0].toNat : Int) != 34) = false := by rw [bt_at, h34]; rfl
      clear hq h34
      go_enter Try.func22, Try.ntmps22
      go_wp2_with fail
      refine (cur_left _ _ _ _ HC.out).mono ?_
      rintro e w1 ⟨rfl, hb1⟩
      rw [← HX.out]
      have HC1 := Lib.hid (HC.out.kept hb1)
      have HB1 := Lib.hid hb1
      clear hb1
      go_wp2_with fail
      clear hx2
      go_loopw [5, 6] (fun v i wr => ∃ (k : Nat) (acc : List UInt8), 1 ≤ k ∧ k ≤ x.size ∧ i = .int .i64 k ∧ acc.length ≤ k ∧ wr.ownsRow w1.heap.size 5 1 v acc.length (bv acc) ∧ Below w1.heap.size w1 wr ∧ quotedL x.data.toList = qread (x.data.toList.drop k) acc k) (fun _ i _ => x.size - (intOf i).toNat)
      case atStart => exact ⟨1, [], by omega, by omega, rfl, by simp, ⟨by simp [bv], .inl ⟨rfl, rfl⟩⟩, Below.refl _ _, HQ.out⟩
      case round =>
        obtain ⟨k, acc, hk1, hk, rfl, hal, hown, hbel, hqr⟩ := hrel
        have HQR := Lib.hid hqr
        have HBr := Lib.hid hbel
        have hw1 := hbel.size
        clear hqr hbel
        have HC2 := Lib.hid (HC1.out.kept HBr.out)
        have noneEnd : quotedL x.data.toList = none → Ending.returned (.tuple #[.string ⟨#[]⟩, .bool false]) = .returned (.tuple #[.string (quotedS (fromB s n)), .bool (decide (0 < quotedN (fromB s n)))]) ∧ ∀ w', Below wr.heap.size wr w' → CurTo b s (n + quotedN (fromB s n)) w w' := by
          intro hno
          have hq := quoted_none hno
          rw [← HX.out, hq.1, hq.2]
          refine ⟨rfl, fun w' hb => ⟨(But.of HB1.out).trans ((But.of HBr.out).trans (But.of hb)), HC2.out.kept hb⟩⟩
        have HNE := Lib.hid noneEnd
        clear noneEnd
        by_cases hlt : k < x.size
        · have hbt := bt_at x k hlt
          have hdr := drop_at x k hlt
          have HDR := Lib.hid hdr
          clear hdr
          by_cases c34 : bt x k = 34
          · have e1 : ((x[k].toNat : Int) == 34) = true := by rw [hbt, c34]; rfl
            have hres := quoted_some (x := x) (l := acc) (m := k + 1) (by rw [HQR.out, HDR.out]; exact qread_q (by rw [hbt]; exact c34))
            have HR := Lib.hid hres
            have hcv := own_string (src := 76) (dst := 9) Try.underlying76 Try.underlying5 Try.underlying9 hown
            have hbb : ∀ v, (wr.setCell ⟨b, 1, none⟩ v).ownsRow w1.heap.size 5 1 u5 acc.length (bv acc) := fun v => ownsRow_setCell_below hown (by have := HC1.out.lt; exact this) v
            have hcv2 := fun v => own_string (src := 76) (dst := 9) Try.underlying76 Try.underlying5 Try.underlying9 (hbb v)
            have g1 := HC2.out.pos
            have g2 := HC2.out.free
            have g3 : (n : Int) + (k + 1) ≤ 140737488351232 := by have := HNS.out; omega
            have g4 : n + (k + 1) ≤ s.size := by have := HNS.out; omega
            clear hbt c34 hres hbb
            go_wp2_with fail
            go_ret2
            refine ⟨by rw [← HX.out, HR.out.1, HR.out.2]; simp, ?_, ?_⟩
            · exact ((But.of HB1.out).trans (But.of HBr.out)).setCell _ _
            · rw [← HX.out, HR.out.2]; exact HC2.out.set g4
          · by_cases c92 : bt x k = 92
            · have e1 : ((x[k].toNat : Int) == 34) = false := by rw [hbt, beq_eq_false_iff_ne]; omega
              have e2 : ((x[k].toNat : Int) == 92) = true := by rw [hbt, c92]; rfl
              have HC92 := Lib.hid (show (x[k]).toNat = 92 by rw [hbt]; exact c92)
              clear hbt c34 c92
              by_cases hlt2 : k + 1 < x.size
              · have hdr2 := drop_at x (k + 1) hlt2
                have HDR2 := Lib.hid hdr2
                have HBT2 := Lib.hid (bt_at x (k + 1) hlt2)
                have hne : ((k : Int) + 1 == (x.size : Int)) = false := by rw [beq_eq_false_iff_ne]; omega
                have HV := Lib.hid (allB_one x (k + 1) hlt2)
                clear hdr2
                go_wp2_with fail
                refine (oct_value_any _ _ (by have := one_size x (k + 1) hlt2; unfold maxLen; rw [ba_len this]; simp)).mono ?_
                rintro e w2 ⟨rfl, hb2⟩
                rw [HV.out]
                have hown2 : w2.ownsRow w1.heap.size 5 1 u5 acc.length (bv acc) := by
                  exact own_below hown hb2
                have HB2 := Lib.hid hb2
                have hw2 : w1.heap.size ≤ w2.heap.size := Nat.le_trans hw1 hb2.size
                clear hb2 hown
                cases hv : valueB (bt x (k + 1))
                · have hno := HNE.out (by rw [HQR.out, HDR.out, HDR2.out]; exact qread_esc_no HC92.out (by rw [HBT2.out]; exact hv))
                  have HNO := Lib.hid hno
                  clear hno hv
                  go_wp2_with fail
                  go_ret2
                  exact ⟨HNO.out.1, HNO.out.2 _ HB2.out⟩
                · have hst : quotedL x.data.toList = qread (x.data.toList.drop (k + 2)) (acc ++ [x[k + 1]]) (k + 2) := by rw [HQR.out, HDR.out, HDR2.out]; exact qread_esc HC92.out (by rw [HBT2.out]; exact hv)
                  have HST := Lib.hid hst
                  clear hst hv
                  go_wp2_with (at_builtin; refine app_byte rfl _ _ _ _ rfl Try.underlying76 Try.infoB w1.heap.size _ _ rfl hown2 (x[k + 1]) _ rfl rfl (by omega) hw2 ?_; intro v' w' hown' hb' _)
                  go_roundw
                  case rel => exact ⟨k + 2, _, by omega, by omega, by go_num, by simp; omega, hown', (HBr.out.trans (HB2.out.mono (by omega))).trans hb', HST.out⟩
                  case measure => simp [intOf]; omega
              · have hke : k + 1 = x.size := by omega
                have hne : ((k : Int) + 1 == (x.size : Int)) = true := by rw [beq_iff_eq]; omega
                have hno := HNE.out (by rw [HQR.out, HDR.out, List.drop_of_length_le (by rw [← ba_size]; omega)]; exact qread_esc_end HC92.out)
                have HNO := Lib.hid hno
                clear hno
                go_wp2_with fail
                go_ret2
                exact ⟨HNO.out.1, HNO.out.2 _ (Below.refl _ _)⟩
            · have e1 : ((x[k].toNat : Int) == 34) = false := by rw [hbt, beq_eq_false_iff_ne]; omega
              have e2 : ((x[k].toNat : Int) == 92) = false := by rw [hbt, beq_eq_false_iff_ne]; omega
              have HCA := Lib.hid (show (x[k]).toNat ≠ 34 by rw [hbt]; exact c34)
              have HCB := Lib.hid (show (x[k]).toNat ≠ 92 by rw [hbt]; exact c92)
              have HBT2 := Lib.hid hbt
              have hne : ((k : Int) == (x.size : Int)) = false := by rw [beq_eq_false_iff_ne]; omega
              have HV := Lib.hid (allB_one x k hlt)
              clear hbt c34 c92
              go_wp2_with fail
              refine (oct_value_any _ _ (by have := one_size x k hlt; unfold maxLen; rw [ba_len this]; simp)).mono ?_
              rintro e w2 ⟨rfl, hb2⟩
              rw [HV.out]
              have hown2 : w2.ownsRow w1.heap.size 5 1 u5 acc.length (bv acc) := by
                exact own_below hown hb2
              have HB2 := Lib.hid hb2
              have hw2 : w1.heap.size ≤ w2.heap.size := Nat.le_trans hw1 hb2.size
              clear hb2 hown
              cases hv : valueB (bt x k)
              · have hno := HNE.out (by rw [HQR.out, HDR.out]; exact qread_plain_no HCA.out HCB.out (by rw [HBT2.out]; exact hv))
                have HNO := Lib.hid hno
                clear hno hv
                go_wp2_with fail
                go_ret2
                exact ⟨HNO.out.1, HNO.out.2 _ HB2.out⟩
              · have hst : quotedL x.data.toList = qread (x.data.toList.drop (k + 1)) (acc ++ [x[k]]) (k + 1) := by rw [HQR.out, HDR.out]; exact qread_plain HCA.out HCB.out (by rw [HBT2.out]; exact hv)
                have HST := Lib.hid hst
                clear hst hv
                go_wp2_with (at_builtin; refine app_byte rfl _ _ _ _ rfl Try.underlying76 Try.infoB w1.heap.size _ _ rfl hown2 (x[k]) _ rfl rfl (by omega) hw2 ?_; intro v' w' hown' hb' _)
                go_roundw
                case rel => exact ⟨k + 1, _, by omega, by omega, by go_num, by simp; omega, hown', (HBr.out.trans (HB2.out.mono (by omega))).trans hb', HST.out⟩
                case measure => simp [intOf]; omega
        · have hno := HNE.out (by rw [HQR.out, List.drop_of_length_le (by rw [← ba_size]; omega)]; rfl)
          have HNO := Lib.hid hno
          clear hno
          go_wp2_with fail
          go_ret2
          exact ⟨HNO.out.1, HNO.out.2 _ (Below.refl _ _)⟩
    · have hq := quoted_none (quotedL_no hp h34)
      have HQ := Lib.hid hq
      have hx2 : ((x[0].toNat : Int) != 34) = true := by rw [bt_at, bne_iff_ne]; omega
      clear hq h34
      go_enter Try.func22, Try.ntmps22
      go_wp2_with fail
      refine (cur_left _ _ _ _ HC.out).mono ?_
      rintro e w1 ⟨rfl, hb1⟩
      rw [← HX.out]
      go_wp2_with fail
      go_ret2
      refine ⟨by rw [← HX.out, HQ.out.1, HQ.out.2]; rfl, But.of hb1, ?_⟩
      rw [← HX.out, HQ.out.2]
      exact HC.out.kept hb1
theorem cur_quoted_none (w : World) :
    Calls Try.prog 22 #[.pointer none] w fun e w' => e = .returned (.tuple #[.string ⟨#[]⟩, .bool false]) ∧ Below w.heap.size w w' := by
  go_enter Try.func22, Try.ntmps22
  go_wp2_with fail
  refine (cur_left_none _).mono ?_
  rintro e w1 ⟨rfl, hb1⟩
  go_wp2_with fail
  go_ret2
  exact ⟨rfl, hb1⟩
end Go.Proofs.Ytjocmjmfkgogiaa
