/- Texts read from their beginning: Skip, Token, Until. -/
import Derived.Test.YtjocmjmfkgogiaaCub
namespace Go.Proofs.Ytjocmjmfkgogiaa
open Go.RowKit
set_option linter.unusedVariables false
set_option linter.unusedSimpArgs false

set_option maxRecDepth 100000 in
set_option maxHeartbeats 800000 in
theorem cur_while (F : FuncId) (first : Array Value) (P : Nat → Bool) (hF : ∀ (c : Nat) (w : World), c < 256 → Calls Try.prog F (first.push (.int .u8 c)) w fun e w' => e = .returned (.bool (P c)) ∧ Below w.heap.size w w')
    (hG : ∀ (args : Array Value) (w : World), (callFunc F args).run Try.prog w = .ok (.enter F args) w) (b n : Nat) (s : ByteArray) (w : World) (h : CurAt b s n w) :
    Calls Try.prog 55 #[.pointer (some ⟨b, 0, none⟩), .func (.func F) first #[]] w fun e w' => e = .returned (.string (upB (fromB s n) (preN P (fromB s n)))) ∧ CurTo b s (n + preN P (fromB s n)) w w' := by
  have HC := Lib.hid h
  have HF := Lib.hid hF
  have h4 := h.le
  have h5 := h.small
  have hsz := fromB_size s n
  have HSZ := Lib.hid hsz
  clear h hF hsz
  go_enter Try.func55, Try.ntmps55
  go_wp2_with fail
  refine (cur_left _ _ _ _ HC.out).mono ?_
  rintro e w1 ⟨rfl, hb1⟩
  have HC1 := Lib.hid (HC.out.kept hb1)
  have hB1 := But.of (b := b) hb1
  clear hb1
  have hsm : (fromB s n).size ≤ 9223372036854775807 := by rw [fromB_size]; omega
  have hw1 := hB1.size
  generalize hx : fromB s n = x at *
  have HX := Lib.hid hx
  clear hx
  go_wp2_with fail
  go_loopw [6] (fun i wr => ∃ k : Nat, k ≤ x.size ∧ i = .int .i64 k ∧ (∀ j, j < k → P (bt x j) = true) ∧ Below w1.heap.size w1 wr) (fun i _ => x.size - (intOf i).toNat)
  case atStart => exact ⟨0, by omega, rfl, fun j h => by omega, Below.refl _ _⟩
  case round =>
    obtain ⟨k, hk, rfl, hp, hb⟩ := hrel
    have HP := Lib.hid hp
    have HBr := Lib.hid hb
    clear hp hb
    by_cases hlt : k < x.size
    · have hbt := bt_at x k hlt
      have HBT := Lib.hid hbt
      clear hbt
      go_wp2_with fail
      rw [HBT.out]
      refine (HF.out _ _ (bt_lt _ _)).mono ?_
      rintro e w2 ⟨rfl, hb2⟩
      have HB2 := Lib.hid ((HBr.out).trans (hb2.mono (HBr.out.size)))
      clear hb2
      cases ht : P (bt x k)
      · have HT := Lib.hid ht
        clear ht
        have hpre : preN P x = k := preN_of hk HP.out (.inr ⟨hlt, HT.out⟩)
        have HPR := Lib.hid hpre
        clear hpre
        have HC2 := Lib.hid (HC1.out.kept (HB2.out))
        have g1 := HC2.out.pos
        have g2 := HC2.out.free
        have hkn : k + n ≤ 9223372036854775807 := by have := HSZ.out; have := HX.out; subst this; omega
        have hns : n + k ≤ s.size := by have := HSZ.out; have := HX.out; subst this; omega
        by_cases hk0 : k = 0
        · subst hk0
          go_wp2_with fail
          go_ret
          refine ⟨by rw [HX.out, HPR.out, upB_zero]; rfl, ?_, ?_⟩
          · exact hB1.trans (But.of HB2.out)
          · rw [HX.out, HPR.out]; exact HC2.out
        · have hk1 : 0 < k := by omega
          go_wp2_with fail
          go_ret
          refine ⟨by rw [HX.out, HPR.out]; rfl, ?_, ?_⟩
          · exact (hB1.trans (But.of HB2.out)).setCell _ _
          · rw [HX.out, HPR.out]; exact HC2.out.set hns
      · have HT := Lib.hid ht
        clear ht
        go_wp2_with fail
        go_roundw
        case rel => exact ⟨k + 1, by omega, by go_num, fun j hj => by
          by_cases hjk : j < k
          · exact HP.out j hjk
          · obtain rfl : j = k := by omega
            exact HT.out, HB2.out⟩
        case measure => simp [intOf]; omega
    · have hke : k = x.size := by omega
      have hpre : preN P x = k := preN_of hk HP.out (.inl hke)
      have HPR := Lib.hid hpre
      clear hpre
      have HKE := Lib.hid hke
      clear hke
      have HC2 := Lib.hid (HC1.out.kept (HBr.out))
      have g1 := HC2.out.pos
      have g2 := HC2.out.free
      have hkn : k + n ≤ 9223372036854775807 := by have := HSZ.out; have := HX.out; subst this; omega
      have hns : n + k ≤ s.size := by have := HSZ.out; have := HX.out; subst this; omega
      by_cases hk0 : k = 0
      · subst hk0
        go_wp2_with fail
        go_ret
        refine ⟨by rw [HX.out, HPR.out, upB_zero]; rfl, ?_, ?_⟩
        · exact hB1.trans (But.of HBr.out)
        · rw [HX.out, HPR.out]; exact HC2.out
      · have hk1 : 0 < k := by omega
        go_wp2_with fail
        go_ret
        refine ⟨by rw [HX.out, HPR.out]; rfl, ?_, ?_⟩
        · exact (hB1.trans (But.of HBr.out)).setCell _ _
        · rw [HX.out, HPR.out]; exact HC2.out.set hns
end Go.Proofs.Ytjocmjmfkgogiaa
