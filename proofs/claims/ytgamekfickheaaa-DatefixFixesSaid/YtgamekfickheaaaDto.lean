/- Dates of fields (layer 6): the document's Fix over what its Parse tells. -/
import Derived.Test.YtgamekfickheaaaDtm
namespace Go.Proofs.Ytgamekfickheaaa
open Go.RowKit
set_option linter.unusedVariables false
set_option linter.unusedSimpArgs false

def fixO (p : Int × Int × Int) (tx P : ByteArray) : ByteArray := if p.2.2 = 0 then P else tx
set_option maxRecDepth 100000 in
set_option maxHeartbeats 2000000 in
theorem dfix_of (tx : ByteArray) (now : Int) (p : Int × Int × Int) (w : World) (hr : -9223372036854775808 ≤ p.1 ∧ p.1 ≤ 9223372036854775807)
    (hP : ∀ w, Calls Try.prog 14 #[.string tx, .int .i64 now] w (RetP p w)) :
    Calls Try.prog 16 #[.string tx, .int .i64 now] w fun e w' => e = .returned (.string (fixO p tx (prtB p.1))) ∧ Below w.heap.size w w' := by
  obtain ⟨p1, p2, p3⟩ := p
  have HP2 := Kp.mk (show ∀ w, Calls Try.prog 14 #[.string tx, .int .i64 now] w fun e w' => e = .returned (.tuple #[.int .i64 p1, .int .i64 p2, .int .i64 p3]) ∧ Below w.heap.size w w' from hP)
  have HPr := Kp.mk (fun w => rprint_any p1 w hr.1 hr.2)
  have HR2 := Kp.mk (show fixO (p1, p2, p3) tx (prtB p1) = if p3 = 0 then prtB p1 else tx from rfl)
  show Calls _ _ _ w fun e w' => e = .returned (.string (fixO (p1, p2, p3) tx (prtB p1))) ∧ Below w.heap.size w w'
  generalize fixO (p1, p2, p3) tx (prtB p1) = Y at *
  generalize prtB p1 = X at *
  clear hP hr
  by_cases h : p3 = 0
  · subst h
    have HR3 := Kp.mk (HR2.out.trans (if_pos rfl))
    clear HR2
    go_enter Try.func16, Try.ntmps16
    go_wp2_with fail
    refine (HP2.out _).mono ?_
    rintro e w1 ⟨rfl, hb1⟩
    go_wp2_with fail
    refine (HPr.out _).mono ?_
    rintro e w2 ⟨rfl, hb2⟩
    go_wp2_with fail
    go_ret
    exact ⟨by rw [HR3.out]; rfl, hb1.trans (hb2.mono hb1.size)⟩
  · have HR3 := Kp.mk (HR2.out.trans (if_neg h))
    have hb : (p3 != 0) = true := by rw [bne_iff_ne]; exact h
    clear HR2
    go_enter Try.func16, Try.ntmps16
    go_wp2_with fail
    refine (HP2.out _).mono ?_
    rintro e w1 ⟨rfl, hb1⟩
    go_wp2_with fail
    go_ret
    exact ⟨by rw [HR3.out]; rfl, hb1⟩
end Go.Proofs.Ytgamekfickheaaa
