/- Dates of fields (layer 6): HttpdateParses. -/
import Derived.Test.YtgamekfickheaaaGreatDts
import Derived.Test.YtgamekfickheaaaGreatDtt
import Derived.Test.YtgamekfickheaaaGreatDtu
import Derived.Test.YtgamekfickheaaaGreatDto
namespace Go.Proofs.YtgamekfickheaaaGreat
open Go.RowKit
set_option linter.unusedVariables false
set_option linter.unusedSimpArgs false

set_option maxRecDepth 100000 in
set_option maxHeartbeats 1000000 in
theorem dparse_none (tx : ByteArray) (now : Int) (w : World) (n0 : -9223372036854775808 ≤ now) (n1 : now ≤ 9223372036854775807) (hpl : placeB (now / 86400) = false) :
    Calls Tryz.prog 82 #[.string tx, .int .i64 now] w (RetP (0, 0, 1) w) := by
  have HD := Kp.mk (fun w => ref_date_any now w n0 n1)
  rw [hpl] at HD
  clear hpl n0 n1
  go_enter Tryz.func82, Tryz.ntmps82
  go_wp2_with fail
  refine (HD.out _).mono ?_
  rintro e w1 ⟨rfl, hb⟩
  have HB := Kp.mk (hb.trans (((Below.refl w1.heap.size w1).alloc (Nat.le_refl _) (.cells #[.int .i64 (dayOf (now / 86400)).1, .int .i64 (dayOf (now / 86400)).2.1, .int .i64 (dayOf (now / 86400)).2.2, .int .i64 (dH now), .int .i64 (dM now), .int .i64 (dS now)] 66)).mono hb.size))
  clear hb
  go_wp2_with fail
  exact bodyPost_ret (v := .tuple #[.int .i64 0, .int .i64 0, .int .i64 1]) (by simp [results, Tryz.results82, go_sem]) rfl ⟨rfl, HB.out⟩
theorem dparse_any (tx : ByteArray) (now : Int) (w : World) (hs : tx.size ≤ 100000) (n0 : -9223372036854775808 ≤ now) (n1 : now ≤ 9223372036854775807) :
    Calls Tryz.prog 82 #[.string tx, .int .i64 now] w (RetP (parP now tx.data.toList) w) := by
  cases hpl : placeB (now / 86400)
  · have : parP now tx.data.toList = (0, 0, 1) := by unfold parP; rw [hpl]; rfl
    rw [this]
    exact dparse_none tx now w n0 n1 hpl
  · obtain ⟨a, hc⟩ := cma_ex tx
    rw [← par_eq now tx a hc hpl]
    refine dparse_of tx now (foK now tx a) w n0 n1 hpl ?_
    rintro k ⟨k1, k3⟩ w
    rcases (by omega : k = 1 ∨ k = 2 ∨ k = 3) with rfl | rfl | rfl
    · exact dform1 tx now w hs
    · exact dform2 tx now a w hs hc n0 n1 hpl
    · exact dform3 tx now w hs
theorem fixO_eq (now : Int) (tx : ByteArray) : fixO (parP now tx.data.toList) tx (prtB (parP now tx.data.toList).1) = fixF now tx.data.toList := by
  unfold fixO fixF
  rw [ofL_self]
end Go.Proofs.YtgamekfickheaaaGreat
