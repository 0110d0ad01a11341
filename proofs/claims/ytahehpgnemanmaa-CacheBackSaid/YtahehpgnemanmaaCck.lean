/- What is said to caches (layer 21): the document's example. -/
import Derived.Test.YtahehpgnemanmaaCci
namespace Go.Proofs.Ytahehpgnemanmaa
open Go.RowKit
set_option linter.unusedVariables false
set_option linter.unusedSimpArgs false

def exE : List Fld := [(⟨#[99, 97, 99, 104, 101, 45, 99, 111, 110, 116, 114, 111, 108]⟩, ⟨#[110, 111, 45, 99, 97, 99, 104, 101, 44, 32, 77, 97, 120, 45, 65, 103, 101, 61, 54, 48]⟩)]
def exP : List Fld := [(⟨#[80, 114, 97, 103, 109, 97]⟩, ⟨#[97, 44, 32, 78, 111, 45, 67, 97, 99, 104, 101]⟩)]
def vNoC : ByteArray := ⟨#[78, 111, 45, 67, 97, 99, 104, 101]⟩
theorem exE_few : FewF exE := ⟨by decide, by intro p hp; simp [exE] at hp; subst hp; exact ⟨by decide, by decide⟩⟩
theorem exP_few : FewF exP := ⟨by decide, by intro p hp; simp [exP] at hp; subst hp; exact ⟨by decide, by decide⟩⟩
theorem exE_cc : ccD exE = [(⟨#[110, 111, 45, 99, 97, 99, 104, 101]⟩, ⟨#[]⟩, false), (⟨#[109, 97, 120, 45, 97, 103, 101]⟩, ⟨#[54, 48]⟩, true)] := by decide +kernel
theorem exE_age : ageR (ccD exE) = (60, true) := by rw [exE_cc]; decide +kernel
theorem exE_has : decide (0 ≤ fdI (ccD exE) vNoC) = true := by rw [exE_cc]; decide +kernel
theorem exE_val : ∀ d ∈ ccD exE, d.2.1.size ≤ 1000000 := by
  rw [exE_cc]
  intro d hd
  simp at hd
  rcases hd with rfl | rfl <;> decide
theorem exP_pr : hasB (hJoin (hAll exP nmPR)) vNC = true := by decide +kernel
set_option maxRecDepth 100000 in
set_option maxHeartbeats 1000000 in
theorem lives21_any (w : World) : Calls Try.prog 30 #[] w fun e w' => e = .returned (.bool true) ∧ Below w.heap.size w w' := by
  have HB0 := Kp.mk ((Below.refl w.heap.size w).alloc (Nat.le_refl _) (.cells (fvH exE).toArray 61))
  have R0 := Kp.mk (rdf_own (l := exE) (World.ownsRow_lit (base := w.heap.size) (e := 61) (size := 2) w (fvH exE).toArray 1 (Nat.le_refl _) (by unfold maxLen; omega) rfl))
  have HA := Kp.mk exE_age
  have HH := Kp.mk exE_has
  have HP := Kp.mk exP_pr
  go_enter Try.func30, Try.ntmps30
  go_wp2_with fail
  refine (cage_any _ exE _ R0.out exE_few exE_val).mono ?_
  rw [HA.out]
  rintro e w1 ⟨rfl, hb1⟩
  have HB1 := Kp.mk (HB0.out.trans (hb1.mono HB0.out.size))
  have R1 := Kp.mk (R0.out.below hb1)
  clear hb1
  go_wp2_with fail
  refine (chas21_any _ exE vNoC _ R1.out exE_few (by decide)).mono ?_
  rw [HH.out]
  rintro e w2 ⟨rfl, hb2⟩
  have HB2 := Kp.mk (HB1.out.trans (hb2.mono HB1.out.size))
  clear hb2
  have R2 := Kp.mk (rdf_own (l := exP) (World.ownsRow_lit (base := w2.heap.size) (e := 61) (size := 2) w2 (fvH exP).toArray 1 (Nat.le_refl _) (by unfold maxLen; omega) rfl))
  have HX2 := Kp.mk (HB2.out.alloc HB2.out.size (.cells (fvH exP).toArray 61))
  go_wp2_with fail
  refine (cprag_any _ exP _ R2.out exP_few).mono ?_
  rw [HP.out]
  rintro e w3 ⟨rfl, hb3⟩
  have HB3 := Kp.mk (HX2.out.trans (hb3.mono HX2.out.size))
  clear hb3
  go_wp2_with fail
  go_ret
  exact ⟨rfl, HB3.out⟩
end Go.Proofs.Ytahehpgnemanmaa
