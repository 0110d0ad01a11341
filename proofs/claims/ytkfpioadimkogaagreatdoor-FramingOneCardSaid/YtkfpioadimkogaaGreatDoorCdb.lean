/- Codings (layer 19): what is looked for among elements. Written by bin/mkcdb.py. -/
import Derived.Test.YtkfpioadimkogaaGreatDoorCda
namespace Go.Proofs.YtkfpioadimkogaaGreatDoor
open Go.RowKit
set_option linter.unusedVariables false
set_option linter.unusedSimpArgs false

theorem any_take {Q : Cod → Bool} {l : List Cod} {k : Nat} (h : k < l.length) : (l.take (k + 1)).any Q = ((l.take k).any Q || Q l[k]) := by
  rw [List.take_succ_eq_append_getElem h, List.any_append]
  simp
theorem any_hit {Q : Cod → Bool} {l : List Cod} {k : Nat} (h : k < l.length) (hf : Q l[k] = true) : l.any Q = true := List.any_eq_true.2 ⟨_, List.getElem_mem h, hf⟩
theorem wrap_idC {x : Int} (h1 : -9223372036854775808 ≤ x) (h2 : x < 9223372036854775808) : IntKind.i64.wrap x = x := by
  simp [IntKind.wrap, IntKind.signed, IntKind.bits, wrap64]
  split <;> omega
abbrev cagg (c : Cod) : Value := .agg #[.string c.1, .bool c.2.1, .bool c.2.2]
def CIdb (b : Bool) (w : World) (e : Ending) (w' : World) : Prop := ∃ r : Int, e = .returned (.int .i64 r) ∧ decide (0 ≤ r) = b ∧ Below w.heap.size w w'
theorem cun_any (c : Cod) (w : World) : Calls Tryz.prog 150 #[cagg c] w fun e w' => e = .returned (.bool (isUn c)) ∧ Below w.heap.size w w' := by
  obtain ⟨x, p, r⟩ := c
  have HBA := Kp.mk ((Below.refl w.heap.size w).alloc (Nat.le_refl _) (.cells #[.string x, .bool p, .bool r] 144))
  go_enter Tryz.func150, Tryz.ntmps150
  go_wp2_with fail
  go_ret
  exact ⟨rfl, HBA.out⟩
set_option maxRecDepth 100000 in
set_option maxHeartbeats 2000000 in
theorem cunx_any (v : Value) (l : List Cod) (w : World) (hv : RdC w v l) (hl : l.length ≤ 100000) :
    Calls Tryz.prog 179 #[v, .func (.func 150) #[] #[]] w (CIdb (l.any isUn) w) := by
  have HV := Kp.mk hv
  obtain ⟨a, cap, rfl, hc1, hc2, -⟩ := hv
  clear hc2
  go_enter Tryz.func179, Tryz.ntmps179
  go_wp2_with fail
  go_loopw [8] (fun i wr => ∃ k : Nat, k ≤ l.length ∧ i = .int .i64 k ∧ (l.take k).any isUn = false ∧ Below w.heap.size w wr) (fun i _ => l.length - (intOf i).toNat)
  case atStart => exact ⟨0, by omega, rfl, rfl, Below.refl _ _⟩
  case round =>
    obtain ⟨k, hk, rfl, hh, hb⟩ := hrel
    have HB := Kp.mk hb
    have HH := Kp.mk hh
    have hsz := hb.size
    clear hh hb
    by_cases hlt : k < l.length
    · obtain ⟨g, o, rfl, hgl, d0⟩ := rdc_cells (HV.out.below HB.out) (by omega)
      obtain ⟨c1, c2, c3⟩ := d0 k hlt
      have q0 : (0 : Int) ≤ (k : Int) := by omega
      have q1 : (k : Int) < (l.length : Int) := by omega
      have HT := Kp.mk (any_take (Q := isUn) hlt)
      have HHit := Kp.mk (any_hit (Q := isUn) hlt)
      have HC := Kp.mk (cun_any l[k])
      clear d0
      generalize l[k] = cx at *
      obtain ⟨x, p, r⟩ := cx
      dsimp only at c1 c2 c3
      go_wp2_with fail
      refine (HC.out _).mono ?_
      rintro e w2 ⟨rfl, hb2⟩
      have HB2 := Kp.mk (HB.out.trans (hb2.mono hsz))
      clear hb2
      cases hf : isUn (x, p, r)
      · have HT2 := Kp.mk (show (l.take (k + 1)).any isUn = false by rw [HT.out, hf, HH.out]; rfl)
        go_wp2_with fail
        go_roundw
        case rel => exact ⟨k + 1, by omega, by go_num, HT2.out, HB2.out⟩
        case measure => simp [intOf]; omega
      · have HT2 := Kp.mk (HHit.out hf)
        go_wp2_with fail
        go_ret
        exact ⟨_, rfl, by rw [HT2.out]; exact decide_eq_true (by omega), HB2.out⟩
    · have HK := Kp.mk (show l.any isUn = false by have := HH.out; rwa [List.take_of_length_le (by omega)] at this)
      go_wp2_with fail
      go_ret
      exact ⟨-1, rfl, by rw [HK.out]; rfl, HB.out⟩
theorem cunc_any (v : Value) (l : List Cod) (w : World) (hv : RdC w v l) (hl : l.length ≤ 100000) :
    Calls Tryz.prog 152 #[v, .func (.func 150) #[] #[]] w fun e w' => e = .returned (.bool (l.any isUn)) ∧ Below w.heap.size w w' := by
  have HV := Kp.mk hv
  clear hv
  go_enter Tryz.func152, Tryz.ntmps152
  go_wp2_with fail
  refine (cunx_any v l _ HV.out hl).mono ?_
  rintro e w1 ⟨r, rfl, hr, hb⟩
  have HR := Kp.mk hr
  clear hr
  go_wp2_with fail
  go_ret
  exact ⟨by rw [← HR.out]; rfl, hb⟩
theorem cch_any (c : Cod) (w : World) : Calls Tryz.prog 151 #[cagg c] w fun e w' => e = .returned (.bool (isCh c)) ∧ Below w.heap.size w w' := by
  obtain ⟨x, p, r⟩ := c
  have HBA := Kp.mk ((Below.refl w.heap.size w).alloc (Nat.le_refl _) (.cells #[.string x, .bool p, .bool r] 144))
  go_enter Tryz.func151, Tryz.ntmps151
  go_wp2_with fail
  go_ret
  exact ⟨rfl, HBA.out⟩
set_option maxRecDepth 100000 in
set_option maxHeartbeats 2000000 in
theorem cchx_any (v : Value) (l : List Cod) (w : World) (hv : RdC w v l) (hl : l.length ≤ 100000) :
    Calls Tryz.prog 179 #[v, .func (.func 151) #[] #[]] w (CIdb (l.any isCh) w) := by
  have HV := Kp.mk hv
  obtain ⟨a, cap, rfl, hc1, hc2, -⟩ := hv
  clear hc2
  go_enter Tryz.func179, Tryz.ntmps179
  go_wp2_with fail
  go_loopw [8] (fun i wr => ∃ k : Nat, k ≤ l.length ∧ i = .int .i64 k ∧ (l.take k).any isCh = false ∧ Below w.heap.size w wr) (fun i _ => l.length - (intOf i).toNat)
  case atStart => exact ⟨0, by omega, rfl, rfl, Below.refl _ _⟩
  case round =>
    obtain ⟨k, hk, rfl, hh, hb⟩ := hrel
    have HB := Kp.mk hb
    have HH := Kp.mk hh
    have hsz := hb.size
    clear hh hb
    by_cases hlt : k < l.length
    · obtain ⟨g, o, rfl, hgl, d0⟩ := rdc_cells (HV.out.below HB.out) (by omega)
      obtain ⟨c1, c2, c3⟩ := d0 k hlt
      have q0 : (0 : Int) ≤ (k : Int) := by omega
      have q1 : (k : Int) < (l.length : Int) := by omega
      have HT := Kp.mk (any_take (Q := isCh) hlt)
      have HHit := Kp.mk (any_hit (Q := isCh) hlt)
      have HC := Kp.mk (cch_any l[k])
      clear d0
      generalize l[k] = cx at *
      obtain ⟨x, p, r⟩ := cx
      dsimp only at c1 c2 c3
      go_wp2_with fail
      refine (HC.out _).mono ?_
      rintro e w2 ⟨rfl, hb2⟩
      have HB2 := Kp.mk (HB.out.trans (hb2.mono hsz))
      clear hb2
      cases hf : isCh (x, p, r)
      · have HT2 := Kp.mk (show (l.take (k + 1)).any isCh = false by rw [HT.out, hf, HH.out]; rfl)
        go_wp2_with fail
        go_roundw
        case rel => exact ⟨k + 1, by omega, by go_num, HT2.out, HB2.out⟩
        case measure => simp [intOf]; omega
      · have HT2 := Kp.mk (HHit.out hf)
        go_wp2_with fail
        go_ret
        exact ⟨_, rfl, by rw [HT2.out]; exact decide_eq_true (by omega), HB2.out⟩
    · have HK := Kp.mk (show l.any isCh = false by have := HH.out; rwa [List.take_of_length_le (by omega)] at this)
      go_wp2_with fail
      go_ret
      exact ⟨-1, rfl, by rw [HK.out]; rfl, HB.out⟩
theorem cchc_any (v : Value) (l : List Cod) (w : World) (hv : RdC w v l) (hl : l.length ≤ 100000) :
    Calls Tryz.prog 152 #[v, .func (.func 151) #[] #[]] w fun e w' => e = .returned (.bool (l.any isCh)) ∧ Below w.heap.size w w' := by
  have HV := Kp.mk hv
  clear hv
  go_enter Tryz.func152, Tryz.ntmps152
  go_wp2_with fail
  refine (cchx_any v l _ HV.out hl).mono ?_
  rintro e w1 ⟨r, rfl, hr, hb⟩
  have HR := Kp.mk hr
  clear hr
  go_wp2_with fail
  go_ret
  exact ⟨by rw [← HR.out]; rfl, hb⟩
end Go.Proofs.YtkfpioadimkogaaGreatDoor
