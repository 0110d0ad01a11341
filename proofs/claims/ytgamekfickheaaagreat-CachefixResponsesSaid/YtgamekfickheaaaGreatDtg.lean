/- Dates of fields (layer 6): Fix, the program's; HttpdatePrints (bin/mkdtg.py). -/
import Derived.Test.YtgamekfickheaaaGreatDte
import Derived.Test.YtgamekfickheaaaGreatDtf
namespace Go.Proofs.YtgamekfickheaaaGreat
open Go.RowKit
set_option linter.unusedVariables false
set_option linter.unusedSimpArgs false

deriving instance DecidableEq for Fd
theorem prt_of {n y m d : Int} (k mn : Nat) (hd : IsDay y m d) (hp : placeI y m d = n / 86400) (hpl : placeB (n / 86400) = true) (hk : weekI (n / 86400) = (k : Int)) (hm : m - 1 = (mn : Int)) : prtB n = fixT k mn y d (dH n) (dM n) (dS n) := by
  obtain ⟨a, b, c⟩ := dayOf_eq hd hp
  unfold prtB
  rw [hpl, if_pos rfl, ← fix_text n mn (by show (dayOf (n / 86400)).2.1 - 1 = _; rw [← b]; exact hm)]
  have hw : wkN n = k := by unfold wkN; rw [hk]; rfl
  rw [hw]
  show fixT k mn (dayOf (n / 86400)).1 (dayOf (n / 86400)).2.2 _ _ _ = _
  rw [← a, ← c]
theorem prt_thu : prtB 0 = ⟨#[84, 104, 117, 44, 32, 48, 49, 32, 74, 97, 110, 32, 49, 57, 55, 48, 32, 48, 48, 58, 48, 48, 58, 48, 48, 32, 71, 77, 84]⟩ :=
  (prt_of (n := 0) (y := 1970) (m := 1) (d := 1) 4 0 ⟨by decide, by decide, by decide, by decide, by decide, by decide⟩ (by decide) (by decide) (by decide) (by decide)).trans (by decide +kernel)
theorem prt_sun : prtB 784111777 = ⟨#[83, 117, 110, 44, 32, 48, 54, 32, 78, 111, 118, 32, 49, 57, 57, 52, 32, 48, 56, 58, 52, 57, 58, 51, 55, 32, 71, 77, 84]⟩ :=
  (prt_of (n := 784111777) (y := 1994) (m := 11) (d := 6) 0 10 ⟨by decide, by decide, by decide, by decide, by decide, by decide⟩ (by decide +kernel) (by decide +kernel) (by decide +kernel) (by decide)).trans (by decide +kernel)
def sunL : List UInt8 := [83, 117, 110, 100, 97, 121, 44, 32, 48, 54, 45, 78, 111, 118, 45, 57, 52, 32, 48, 56, 58, 52, 57, 58, 51, 55, 32, 71, 77, 84]
theorem sun_none : allS (patS 0).data.toList (fd0 sunL) = none := by decide +kernel
theorem sun_some : allS (patS 1).data.toList (fd0 sunL) = some ⟨[], 94, 11, 6, 8, 49, 37, 0⟩ := by decide +kernel
theorem yrN_0 : yrN 0 = 1970 := (dayOf_eq (n := 0) (y := 1970) (m := 1) (d := 1) ⟨by decide, by decide, by decide, by decide, by decide, by decide⟩ (by decide)).1.symm
theorem par_sun : parP 0 sunL = (784111777, 2, 0) := by
  unfold parP
  rw [if_pos (by decide), (parF_none (k := 0) (by decide) sun_none).trans (parF_some (k := 1) (by decide) sun_some)]
  have hy : yrP 1 0 94 = 1994 := by unfold yrP; rw [if_pos rfl, yrN_0]; decide
  unfold endP
  rw [hy]
  decide +kernel
/-- What Fix tells. -/
noncomputable def fixF (now : Int) (L : List UInt8) : ByteArray := if (parP now L).2.2 = 0 then prtB (parP now L).1 else ofL L
theorem parF_range (now : Int) (L : List UInt8) : ∀ ks, -9223372036854775808 ≤ (parF now L ks).1 ∧ (parF now L ks).1 ≤ 9223372036854775807
  | [] => by unfold parF; exact ⟨by decide, by decide⟩
  | k :: ks => by
    unfold parF
    split
    · exact parF_range now L ks
    · unfold endP
      split
      · exact secI_range _ _ _ _ _ _
      · exact ⟨by decide, by decide⟩
theorem parP_range (now : Int) (L : List UInt8) : -9223372036854775808 ≤ (parP now L).1 ∧ (parP now L).1 ≤ 9223372036854775807 := by
  unfold parP
  split
  · exact parF_range now L _
  · exact ⟨by decide, by decide⟩
theorem print_thu (w : World) : Calls Tryz.prog 23 #[.int .i64 0] w fun e w' => e = .returned (.string ⟨#[84, 104, 117, 44, 32, 48, 49, 32, 74, 97, 110, 32, 49, 57, 55, 48, 32, 48, 48, 58, 48, 48, 58, 48, 48, 32, 71, 77, 84]⟩) ∧ Below w.heap.size w w' := by
  have h := hprint_any 0 w (by decide) (by decide)
  rw [prt_thu] at h
  exact h
end Go.Proofs.YtgamekfickheaaaGreat
