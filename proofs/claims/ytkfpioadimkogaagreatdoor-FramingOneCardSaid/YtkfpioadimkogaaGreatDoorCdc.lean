/- Codings (layer 19): whether a body goes in chunks, whether trailers are taken. -/
import Derived.Test.YtkfpioadimkogaaGreatDoorCdb
import Derived.Test.YtkfpioadimkogaaGreatDoorCna
namespace Go.Proofs.YtkfpioadimkogaaGreatDoor
open Go.RowKit
set_option linter.unusedVariables false
set_option linter.unusedSimpArgs false

def nmTE : ByteArray := ⟨#[84, 114, 97, 110, 115, 102, 101, 114, 45, 69, 110, 99, 111, 100, 105, 110, 103]⟩
def nmT2 : ByteArray := ⟨#[84, 69]⟩
def teV (l : List Fld) (nm : ByteArray) : ByteArray := hJoin (hAll l nm)
/-- The elements of all the fields of that name. -/
def teC (l : List Fld) (nm : ByteArray) : List Cod := codsOf (splL (teV l nm))
def chF (l : List Fld) : Bool × Int := chR (hIs l nmTE) (splB (teV l nmTE)) (teC l nmTE)
def trF (l : List Fld) : Bool := trR (teC l nmT2)
theorem own_fmC {w : World} {B : Nat} {e : TypeId} {sz n : Nat} {a : Option Addr} {c : Nat} {xs : List Value} (h : w.ownsRow B e sz (.slice a n c) n xs) : n ≤ c := by
  rcases h.2 with ⟨h, h0⟩ | ⟨g, cap, cur, h, _, _, h2, _⟩
  · cases h; omega
  · cases h; exact h2
set_option maxRecDepth 100000 in
set_option maxHeartbeats 4000000 in
theorem cchunk_any (vl : Value) (l : List Fld) (w : World) (hv : RdF w vl l) (hF : FewF l) : Calls Tryz.prog 115 #[vl] w fun e w' => e = .returned (.tuple #[.bool (chF l).1, .int .i64 (chF l).2]) ∧ Below w.heap.size w w' := by
  have hvz : (teV l nmTE).size ≤ 50100 := hF.comb nmTE
  have hln := splL_len (teV l nmTE)
  have HZ := Kp.mk (fun x (h : x ∈ splL (teV l nmTE)) => show x.size ≤ 100000 by have h1 := (splL_mem h).2; omega)
  have HCV := Kp.mk (show hJoin (hAll l nmTE) = teV l nmTE from rfl)
  have HR := Kp.mk (show chF l = chR (hIs l nmTE) (splB (teV l nmTE)) (codsOf (splL (teV l nmTE))) from rfl)
  have HV := Kp.mk hv
  have HS := Kp.mk hF.sm
  have hl5 := hF.len
  clear hF hv
  go_enter Tryz.func115, Tryz.ntmps115
  go_wp2_with fail
  refine (hcomb_any vl l nmTE _ HV.out HS.out (by omega) (by decide)).mono ?_
  rintro e w1 ⟨rfl, hb1⟩
  rw [HCV.out]
  have HB1 := Kp.mk hb1
  clear hb1
  generalize teV l nmTE = v at *
  cases hhi : hIs l nmTE
  · rw [hhi] at HR
    have HX := Kp.mk (HR.out.trans chR_no)
    go_wp2_with fail
    go_ret2
    exact ⟨by rw [HX.out]; rfl, HB1.out⟩
  · rw [hhi] at HR
    go_wp2_with fail
    refine (split_any v _ (by omega)).mono ?_
    rintro e w2 ⟨u, rfl, ho, hb2⟩
    have HB2 := Kp.mk (HB1.out.trans (hb2.mono HB1.out.size))
    have HRS := Kp.mk (rds_own ho)
    obtain ⟨a, c, rfl⟩ := own_lenH ho
    clear ho hb2
    generalize splL v = L at *
    have hLs : L.length ≤ 100000 := by omega
    generalize splB v = ob at *
    go_wp2_with fail
    refine (cread_any _ L _ HRS.out HZ.out hLs).mono ?_
    rintro e w3 ⟨u, rfl, ho, hb3⟩
    have HB3 := Kp.mk (HB2.out.trans (hb3.mono HB2.out.size))
    have HRC := Kp.mk (rdc_own ho)
    obtain ⟨a2, c2, rfl⟩ := own_lenH ho
    have hcap := own_fmC ho
    have hcl := cods_len L
    clear ho hb3
    generalize codsOf L = C at *
    have hCs : C.length ≤ 100000 := by omega
    have hws : IntKind.i64.wrap ((C.length : Int) - 1) = (C.length : Int) - 1 := wrap_idC (by omega) (by omega)
    clear hln hcl
    cases ob
    · have HX := Kp.mk (HR.out.trans (chR_bad (.inl rfl)))
      go_wp2_with fail
      go_ret2
      exact ⟨by rw [HX.out]; rfl, HB3.out⟩
    · rcases Nat.eq_zero_or_pos C.length with h0 | h0
      · have HX := Kp.mk (HR.out.trans (chR_bad (.inr (.inl h0))))
        rw [h0] at hws hcap ⊢
        go_wp2_with fail
        go_ret2
        exact ⟨by rw [HX.out]; rfl, HB3.out⟩
      · obtain ⟨n, hn⟩ : ∃ n, C.length = n + 1 := ⟨C.length - 1, by omega⟩
        have HPT := Kp.mk (allC_parts hn)
        have hw2 : IntKind.i64.wrap ((n : Int)) = (n : Int) := wrap_idC (by omega) (by omega)
        have q0 : ¬ (n : Int) < 0 := by omega
        have q00 : (0 : Int) ≤ (n : Int) := by omega
        have HBD := Kp.mk (fun (h : allC C = false) => HR.out.trans (chR_bad (.inr (.inr h))))
        obtain ⟨g, o, rfl, hgl, d0⟩ := rdc_cells HRC.out h0
        have HRI := Kp.mk (rdc_init (m := n) HRC.out (by omega))
        have HD := Kp.mk (d0 n (by omega))
        have HQL := Kp.mk (cch_any (C[n]'(by omega)))
        have hgt : n < C.length := by omega
        have HN := Kp.mk hn
        have hcap2 : n + 1 ≤ c2 := by omega
        clear d0
        rw [hn] at HRC hws hcap ⊢
        generalize hcx : (C[n]'hgt) = cx at *
        clear hcx
        go_wp2_with fail
        refine (cunc_any _ C _ HRC.out hCs).mono ?_
        rintro e w4 ⟨rfl, hb4⟩
        have HB4 := Kp.mk (HB3.out.trans (hb4.mono HB3.out.size))
        have HRI4 := Kp.mk (HRI.out.below hb4)
        obtain ⟨e1, e2, e3⟩ := HD.out
        have d1 := (hb4.cell (p := ⟨g, o + n * 3, none⟩) hgl).trans e1
        have d2 := (hb4.cell (p := ⟨g, o + n * 3 + 1, none⟩) hgl).trans e2
        have d3 := (hb4.cell (p := ⟨g, o + n * 3 + 2, none⟩) hgl).trans e3
        have hgl4 : g < w4.heap.size := Nat.lt_of_lt_of_le hgl hb4.size
        clear hb4 e1 e2 e3
        cases hun : C.any isUn
        · rw [hun] at HPT
          obtain ⟨x, p, r⟩ := cx
          dsimp only at d1 d2 d3
          go_wp2_with fail
          refine (HQL.out _).mono ?_
          rintro e w5 ⟨rfl, hb5⟩
          have HB5 := Kp.mk (HB4.out.trans (hb5.mono HB4.out.size))
          have HRI5 := Kp.mk (HRI4.out.below hb5)
          have d5 := (hb5.cell (p := ⟨g, o + n * 3 + 1, none⟩) hgl4).trans d2
          clear hb5 d1 d2 d3
          cases hch : isCh (x, p, r)
          · rw [hch] at HPT
            have HX := Kp.mk (HBD.out (by rw [HPT.out]; rfl))
            go_wp2_with fail
            go_ret2
            exact ⟨by rw [HX.out]; rfl, HB5.out⟩
          · rw [hch] at HPT
            cases p
            · have HX := Kp.mk (HBD.out (by rw [HPT.out]; rfl))
              go_wp2_with fail
              go_ret2
              exact ⟨by rw [HX.out]; rfl, HB5.out⟩
            · have hct : (C.take n).length ≤ 100000 := by rw [List.length_take]; omega
              go_wp2_with fail
              refine (cchc_any _ (C.take n) _ HRI5.out hct).mono ?_
              rintro e w6 ⟨rfl, hb6⟩
              have HB6 := Kp.mk (HB5.out.trans (hb6.mono HB5.out.size))
              clear hb6
              cases han : (C.take n).any isCh
              · rw [han] at HPT
                have HAL := Kp.mk (show allC C = true by rw [HPT.out]; rfl)
                rcases Nat.eq_zero_or_pos n with hn0 | hn0
                · have HX := Kp.mk (HR.out.trans (chR_one (by rw [HN.out, hn0]) HAL.out))
                  have q9 : ¬ (0 : Int) < (n : Int) := by omega
                  go_wp2_with fail
                  go_ret2
                  exact ⟨by rw [HX.out]; rfl, HB6.out⟩
                · have HX := Kp.mk (HR.out.trans (chR_many (by rw [HN.out]; omega) HAL.out))
                  have q9 : (0 : Int) < (n : Int) := by omega
                  go_wp2_with fail
                  go_ret2
                  exact ⟨by rw [HX.out]; rfl, HB6.out⟩
              · rw [han] at HPT
                have HX := Kp.mk (HBD.out (by rw [HPT.out]; rfl))
                go_wp2_with fail
                go_ret2
                exact ⟨by rw [HX.out]; rfl, HB6.out⟩
        · rw [hun] at HPT
          have HX := Kp.mk (HBD.out (by rw [HPT.out]; rfl))
          go_wp2_with fail
          go_ret2
          exact ⟨by rw [HX.out]; rfl, HB4.out⟩
end Go.Proofs.YtkfpioadimkogaaGreatDoor
