/- canon.Same: fields in one form, sorted (layer 50). -/
import Derived.Test.YtocnecbhpofdgaaCba
import Derived.Test.YtocnecbhpofdgaaSsj
import Derived.Test.YtocnecbhpofdgaaCag
import Derived.Test.YtocnecbhpofdgaaCbp
namespace Go.Proofs.Ytocnecbhpofdgaa
open Go.RowKit Go.Shelf Go.Lib Go.Sort
set_option linter.unusedVariables false
set_option linter.unusedSimpArgs false

/-- Fields in one form, sorted by their names. -/
def cSr (l : List Fld) : List Fld := isrt (ltOf cmF) (cFld l)
theorem cSr_len (l : List Fld) : (cSr l).length = (cFld l).length := isrt_length _ _
set_option maxRecDepth 100000 in
set_option maxHeartbeats 2000000 in
theorem sorted_any (v : Value) (l : List Fld) (w : World) (hv : RdF w v l) (hz : ∀ p ∈ l, FldSm p) (hl : l.length ≤ 100) :
    Calls Try.prog 52 #[v] w (RetF (cSr l) w) := by
  have HF := Kp.mk (cfields_any v l w hv hz hl)
  have HLN := Kp.mk (cFld_len l)
  have HC := Kp.mk (show cSr l = isrt (ltOf cmF) (cFld l) from rfl)
  have HCL := Kp.mk (cSr_len l)
  obtain ⟨av, cv, rfl, -, -, -⟩ := hv
  clear hz
  unfold RetF at *
  generalize cSr l = R at *
  generalize cFld l = L at *
  go_enter Try.func52, Try.ntmps52
  go_wp2_with fail
  refine HF.out.mono ?_
  rintro e w1 ⟨u, rfl, ho, hb⟩
  have HO := Kp.mk ho
  have HB := Kp.mk hb
  have hsz := hb.size
  rcases ho.2 with ⟨hu, h0⟩ | ⟨g, cap, cur, hu, hg, -⟩
  · subst hu
    have hL : L = [] := List.length_eq_zero_iff.1 h0
    subst hL
    clear ho hb h0
    go_wp2_with fail
    refine (ss_noneSfd none 0 _).mono ?_
    rintro e w2 ⟨rfl, rfl⟩
    go_wp2_with fail
    go_ret
    refine ⟨_, rfl, ?_, HB.out⟩
    rw [HC.out]
    exact HO.out
  · subst hu
    have HG := Kp.mk hg
    have HLA := Kp.mk (show L.toArray.size = L.length from List.size_toArray)
    have HRW := Kp.mk (sk_rwSfd (d := L.toArray) (B := w.heap.size) (e := 64) (cap := cap) (by rw [HLA.out]; exact HO.out))
    have HSO := Kp.mk (ss_sortSfd cmF swoF cmpT50 g cap L.length L.toArray w1 HRW.out (by rw [List.size_toArray]) (by have := HLN.out; omega))
    clear ho hb hg
    generalize hn : L.length = n at *
    have HN := Kp.mk hn
    clear hn
    go_wp2_with fail
    refine HSO.out.mono ?_
    rintro e w2 ⟨rfl, d', S2, z2, l2⟩
    have HR := Kp.mk (show d'.toList = R by rw [l2, HC.out])
    have HK := Kp.mk (sk_kptSfd S2)
    have HW := Kp.mk (sk_ownSfd (B := w.heap.size) (e := 64) (cap := cap) (d := L.toArray) (by rw [HLA.out]; exact HO.out) S2 z2)
    clear S2 z2 l2
    go_wp2_with fail
    go_ret
    refine ⟨_, rfl, ?_, ?_⟩
    · have h := HW.out
      rw [HLA.out, HR.out] at h
      rw [HCL.out]
      exact h
    · obtain ⟨k1, k2, k3, k4, k5⟩ := HK.out
      exact HB.out.trans ⟨k1, k2, k3, k4, fun k hk => k5 k (by omega) (by have := HG.out; omega)⟩
set_option maxRecDepth 100000 in
set_option maxHeartbeats 2000000 in
theorem csame_any (v1 v2 : Value) (l m : List Fld) (w : World) (h1 : RdF w v1 l) (h2 : RdF w v2 m) (hz1 : ∀ p ∈ l, FldSm p) (hz2 : ∀ p ∈ m, FldSm p) (hl : l.length ≤ 100) (hm : m.length ≤ 100) :
    Calls Try.prog 26 #[v1, v2] w fun e w' => e = .returned (.bool (sameL (cSr l) (cSr m))) ∧ Below w.heap.size w w' := by
  have H1 := Kp.mk (sorted_any v1 l w h1 hz1 hl)
  have H2 := Kp.mk (fun w2 (hb : Below w.heap.size w w2) => sorted_any v2 m w2 (h2.below hb) hz2 hm)
  have HL := Kp.mk (show (cSr l).length ≤ 100 ∧ (cSr m).length ≤ 100 by have := cFld_len l; have := cFld_len m; rw [cSr_len, cSr_len]; omega)
  obtain ⟨a1, c1, rfl, -, -, -⟩ := h1
  obtain ⟨a2, c2, rfl, -, -, -⟩ := h2
  clear hz1 hz2
  unfold RetF at *
  generalize cSr l = X at *
  generalize cSr m = Y at *
  go_enter Try.func26, Try.ntmps26
  go_wp2_with fail
  refine H1.out.mono ?_
  rintro e w1 ⟨u1, rfl, ho1, hb1⟩
  have HO1 := Kp.mk ho1
  have HB1 := Kp.mk hb1
  obtain ⟨b1, d1, rfl⟩ := own_lenH ho1
  clear ho1 hb1
  go_wp2_with fail
  refine (H2.out _ HB1.out).mono ?_
  rintro e w2 ⟨u2, rfl, ho2, hb2⟩
  have HO2 := Kp.mk ho2
  have HO3 := Kp.mk (own_bel HO1.out hb2)
  have HB2 := Kp.mk (HB1.out.trans (hb2.mono HB1.out.size))
  obtain ⟨b2, d2, rfl⟩ := own_lenH ho2
  have HSM := Kp.mk (hsame_any (.slice b1 X.length d1) (.slice b2 Y.length d2) X Y w2 (rdf_own HO3.out) (rdf_own ho2) (by have := HL.out; omega) (by have := HL.out; omega))
  clear ho2 hb2
  go_wp2_with fail
  refine HSM.out.mono ?_
  rintro e w3 ⟨rfl, hb3⟩
  go_wp2_with fail
  go_ret
  exact ⟨rfl, HB2.out.trans (hb3.mono HB2.out.size)⟩
end Go.Proofs.Ytocnecbhpofdgaa
