/- Dates of fields (layer 6): HttpdateParses. -/
import Derived.Test.YtgamekfickheaaaDts
import Derived.Test.YtgamekfickheaaaDtt
import Derived.Test.YtgamekfickheaaaDtu
import Derived.Test.YtgamekfickheaaaDto
namespace Go.Proofs.Ytgamekfickheaaa
open Go.RowKit
set_option linter.unusedVariables false
set_option linter.unusedSimpArgs false

set_option maxRecDepth 100000 in
set_option maxHeartbeats 1000000 in
theorem dparse_none (tx : ByteArray) (now : Int) (w : World) (n0 : -9223372036854775808 ≤ now) (n1 : now ≤ 9223372036854775807) (hpl : placeB (now / 86400) = false) :
    Calls Try.prog 14 #[.string tx, .int .i64 now] w (RetP (0, 0, 1) w) := by
  have HD := Kp.mk (fun w => ref_date_any now w n0 n1)
  rw [hpl] at HD
  clear hpl n0 n1
  go_enter Try.func14, Try.ntmps14
  go_wp2_with fail
  refine (HD.out _).mono ?_
  rintro e w1 ⟨rfl, hb⟩
  have HB := Kp.mk (hb.trans (((Below.refl w1.heap.size w1).alloc (Nat.le_refl _) (.cells #[.int .i64 (dayOf (now / 86400)).1, .int .i64 (dayOf (now / 86400)).2.1, .int .i64 (dayOf (now / 86400)).2.2, .int .i64 (dH now), .int .i64 (dM now), .int .i64 (dS now)] 98)).mono hb.size))
  clear hb
  go_wp2_with fail
  exact bodyPost_ret (v := .tuple #[.int .i64 0, .int .i64 0, .int .i64 1]) (by simp [results, Try.results14, go_sem]) rfl ⟨rfl, HB.out⟩
theorem dparse_any (tx : ByteArray) (now : Int) (w : World) (hs : tx.size ≤ 100000) (n0 : -9223372036854775808 ≤ now) (n1 : now ≤ 9223372036854775807) :
    Calls Try.prog 14 #[.string tx, .int .i64 now] w (RetP (parP now tx.data.toList) w) := by
  cases hpl : placeB (now / 86400)
  · have : parP now tx.data.toList = (0, 0, 1) := by unfold parP; rw [hpl]; rfl
    rw [this]
    exact dparse_none tx now w n0 n1 hpl
  · obtain ⟨a, hc⟩ := cma_ex tx
    rw [← par_eq now tx a hc hpl]
    refine dparse_of tx now (foK now tx a) w n0 n1 hpl ?_
    rintro k ⟨k1, k3⟩ w
    rcases (by omega : k = 1 ∨ k = 2 ∨ k = 3) with rfl | rfl | rfl
    · exact dform1 tx now w hs
    · exact dform2 tx now a w hs hc n0 n1 hpl
    · exact dform3 tx now w hs
theorem fixO_eq (now : Int) (tx : ByteArray) : fixO (parP now tx.data.toList) tx (prtB (parP now tx.data.toList).1) = fixF now tx.data.toList := by
  unfold fixO fixF
  rw [ofL_self]
theorem dfix_any (tx : ByteArray) (now : Int) (w : World) (hs : tx.size ≤ 100000) (n0 : -9223372036854775808 ≤ now) (n1 : now ≤ 9223372036854775807) :
    Calls Try.prog 16 #[.string tx, .int .i64 now] w fun e w' => e = .returned (.string (fixF now tx.data.toList)) ∧ Below w.heap.size w w' := by
  have := dfix_of tx now _ w (parP_range now tx.data.toList) (fun w => dparse_any tx now w hs n0 n1)
  rw [fixO_eq] at this
  exact this
set_option maxRecDepth 100000 in
set_option maxHeartbeats 2000000 in
theorem hparses_of (s S Y : ByteArray) (now p1 p2 p3 : Int) (w : World) (hS : s.extract 0 (min s.size 100) = S)
    (hA : ∀ w, Calls Try.prog 13 #[.string S, .int .i64 now] w fun e w' => e = .returned (.tuple #[.int .i64 p1, .int .i64 p2, .int .i64 p3]) ∧ Below w.heap.size w w')
    (hR : ∀ w, Calls Try.prog 14 #[.string S, .int .i64 now] w fun e w' => e = .returned (.tuple #[.int .i64 p1, .int .i64 p2, .int .i64 p3]) ∧ Below w.heap.size w w')
    (hF : ∀ w, Calls Try.prog 15 #[.string S, .int .i64 now] w fun e w' => e = .returned (.string Y) ∧ Below w.heap.size w w')
    (hG : ∀ w, Calls Try.prog 16 #[.string S, .int .i64 now] w fun e w' => e = .returned (.string Y) ∧ Below w.heap.size w w') :
    Calls Try.prog 3 #[.string s, .int .i64 now] w fun e w' => e = .returned (.bool true) ∧ Below w.heap.size w w' := by
  have HA := Kp.mk hA
  have HR := Kp.mk hR
  have HF := Kp.mk hF
  have HG := Kp.mk hG
  have HS := Kp.mk hS
  have hm : min (s.size : Int) 100 = ((min s.size 100 : Nat) : Int) := by omega
  have hm0 : (0 : Int) ≤ min (s.size : Int) 100 := by omega
  have hm1 : min (s.size : Int) 100 ≤ (s.size : Int) := by omega
  have ht : (min (s.size : Int) 100).toNat = min s.size 100 := by omega
  have tt : (Y.toList == Y.toList) = true := by simp
  have HT := Kp.mk (show s.extract 0 (min (s.size : Int) 100).toNat = S by rw [ht]; exact hS)
  clear hA hR hF hG hS ht hm
  go_enter Try.func3, Try.ntmps3
  go_wp2_with fail
  rw [HT.out]
  refine (HA.out _).mono ?_
  rintro e w1 ⟨rfl, hb1⟩
  go_wp2_with fail
  refine (HR.out _).mono ?_
  rintro e w2 ⟨rfl, hb2⟩
  go_wp2_with fail
  refine (HF.out _).mono ?_
  rintro e w3 ⟨rfl, hb3⟩
  go_wp2_with fail
  refine (HG.out _).mono ?_
  rintro e w4 ⟨rfl, hb4⟩
  go_wp2_with fail
  refine (lives06_any _).mono ?_
  rintro e w5 ⟨rfl, hb5⟩
  go_wp2_with fail
  go_ret
  have g2 := hb1.trans (hb2.mono hb1.size)
  have g3 := g2.trans (hb3.mono g2.size)
  have g4 := g3.trans (hb4.mono g3.size)
  exact ⟨rfl, g4.trans (hb5.mono g4.size)⟩
theorem hparses_walk (s : ByteArray) (now : Int) (w : World) (ws : s.size ≤ maxLen) (wn : (Lit.int .i64 now).wf = true) :
    Calls Try.prog 3 #[.string s, .int .i64 now] w fun e w' => e = .returned (.bool true) ∧ Below w.heap.size w w' := by
  obtain ⟨n0, n1⟩ := bounds_i64 wn
  have hz : (s.extract 0 (min s.size 100)).size ≤ 100 := by rw [ByteArray.size_extract]; omega
  generalize hS : s.extract 0 (min s.size 100) = S at *
  have hl : S.data.toList.length ≤ 100000 := by rw [← ba_size']; omega
  have hA := fun w => hdparse_any now S.data.toList w hl n0 n1
  have hF := fun w => hdfix_any now S.data.toList w hl n0 n1
  rw [ofL_self] at hA hF
  exact hparses_of s S (fixF now S.data.toList) now _ _ _ w hS hA (fun w => dparse_any S now w (by omega) n0 n1) hF (fun w => dfix_any S now w (by omega) n0 n1)
end Go.Proofs.Ytgamekfickheaaa
