/- The first field of a name (layer 10), on both sides. -/
import Derived.Test.YtahehpgnemanmaaHdc
namespace Go.Proofs.Ytahehpgnemanmaa
open Go.RowKit
set_option linter.unusedVariables false
set_option linter.unusedSimpArgs false

def hGet (l : List Fld) (nm : ByteArray) : ByteArray := (hAll l nm).headD ⟨#[]⟩
def hIs (l : List Fld) (nm : ByteArray) : Bool := decide (0 < (hAll l nm).length)
theorem hAll_two (l : List Fld) (nm : ByteArray) (k : Nat) : hAll l nm = hAll (l.take k) nm ++ hAll (l.drop k) nm := by
  unfold hAll
  rw [← List.map_append, ← List.filter_append, List.take_append_drop]
theorem hAll_hit {l : List Fld} {nm : ByteArray} {k : Nat} (h : k < l.length) (h0 : hAll (l.take k) nm = []) (hf : foldB l[k].1 nm = true) : hGet l nm = l[k].2 ∧ hIs l nm = true := by
  have e := hAll_two l nm (k + 1)
  rw [hAll_take h, h0, hf] at e
  unfold hGet hIs
  rw [e]
  simp
theorem hAll_miss {l : List Fld} {nm : ByteArray} (h0 : hAll l nm = []) : hGet l nm = ⟨#[]⟩ ∧ hIs l nm = false := by
  unfold hGet hIs
  rw [h0]
  simp
theorem get1_any (x y nm : ByteArray) (bx : Nat) (w : World) (hc : w.cell? ⟨bx, 0, none⟩ = some (.string nm)) (hbx : bx < w.heap.size) (hn : nm.size ≤ 100000) (hx : x.size ≤ 100000) :
    Calls Try.prog 49 #[.agg #[.string x, .string y], .pointer (some ⟨bx, 0, none⟩)] w fun e w' => e = .returned (.bool (foldB x nm)) ∧ Below w.heap.size w w' := by
  have hc2 : (w.alloc (.cells #[.string x, .string y] 61)).cell? ⟨bx, 0, none⟩ = some (.string nm) := (((Below.refl w.heap.size w).alloc (Nat.le_refl _) _).cell (p := ⟨bx, 0, none⟩) hbx).trans hc
  have d0 := blk_cell (i := 0) (heap_alloc_new w (.cells #[.string x, .string y] 61)) rfl
  go_enter Try.func49, Try.ntmps49
  go_wp2_with fail
  refine (oct_fold_any _ _ _ (by omega) (by omega)).mono ?_
  rintro e w1 ⟨rfl, hb⟩
  go_wp2_with fail
  go_ret
  exact ⟨rfl, ((Below.refl w.heap.size w).alloc (Nat.le_refl _) (.cells #[.string x, .string y] 61)).trans (hb.mono (by simp))⟩
def IdfPost (l : List Fld) (nm : ByteArray) (w : World) (e : Ending) (w' : World) : Prop := ∃ r : Int, e = .returned (.int .i64 r) ∧ Below w.heap.size w w' ∧ ((r = -1 ∧ hAll l nm = []) ∨ ∃ k : Nat, r = (k : Int) ∧ ∃ h : k < l.length, hGet l nm = l[k].2 ∧ hIs l nm = true)
set_option maxRecDepth 100000 in
set_option maxHeartbeats 2000000 in
theorem ixf_any (v : Value) (l : List Fld) (nm : ByteArray) (bx : Nat) (w : World) (hv : RdF w v l) (hc : w.cell? ⟨bx, 0, none⟩ = some (.string nm)) (hbx : bx < w.heap.size) (hz : ∀ p ∈ l, FldSm p) (hn : nm.size ≤ 100000) (hl : l.length ≤ 1000000) :
    Calls Try.prog 48 #[v, .func (.func 49) #[] #[.pointer (some ⟨bx, 0, none⟩)]] w (IdfPost l nm w) := by
  have HV := Kp.mk hv
  have HZ := Kp.mk hz
  have HC := Kp.mk hc
  obtain ⟨a, cap, rfl, hc1, hc2, -⟩ := hv
  clear hz hc hc2
  go_enter Try.func48, Try.ntmps48
  go_wp2_with fail
  go_loopw [8] (fun i wr => ∃ k : Nat, k ≤ l.length ∧ i = .int .i64 k ∧ hAll (l.take k) nm = [] ∧ Below w.heap.size w wr) (fun i _ => l.length - (intOf i).toNat)
  case atStart => exact ⟨0, by omega, rfl, rfl, Below.refl _ _⟩
  case round =>
    obtain ⟨k, hk, rfl, hh, hb⟩ := hrel
    have HB := Kp.mk hb
    have HH := Kp.mk hh
    have HCK := Kp.mk ((hb.cell (p := ⟨bx, 0, none⟩) hbx).trans HC.out)
    have hsz := hb.size
    clear hh hb
    by_cases hlt : k < l.length
    · obtain ⟨g, o, rfl, hgl, d0⟩ := rdf_cells (HV.out.below HB.out) (by omega)
      obtain ⟨c1, c2⟩ := d0 k hlt
      obtain ⟨m1, m2⟩ := HZ.out l[k] (List.getElem_mem hlt)
      have q0 : (0 : Int) ≤ (k : Int) := by omega
      have q1 : (k : Int) < (l.length : Int) := by omega
      have HT := Kp.mk (hAll_take (nm := nm) hlt)
      have HHit := Kp.mk (hAll_hit (nm := nm) hlt HH.out)
      clear d0
      generalize l[k].1 = x at *
      go_wp2_with fail
      refine (get1_any x l[k].2 nm bx _ HCK.out (by omega) hn m1).mono ?_
      rintro e w2 ⟨rfl, hb2⟩
      have HB2 := Kp.mk (HB.out.trans (hb2.mono hsz))
      clear hb2
      cases hf : foldB x nm
      · have HT2 := Kp.mk (show hAll (l.take (k + 1)) nm = [] by rw [HT.out, hf, HH.out]; rfl)
        go_wp2_with fail
        go_roundw
        case rel => exact ⟨k + 1, by omega, by go_num, HT2.out, HB2.out⟩
        case measure => simp [intOf]; omega
      · have HT2 := Kp.mk (HHit.out hf)
        go_wp2_with fail
        go_ret
        exact ⟨_, rfl, HB2.out, .inr ⟨k, rfl, hlt, HT2.out⟩⟩
    · have HK := Kp.mk (show hAll l nm = [] by have := HH.out; rwa [List.take_of_length_le (by omega)] at this)
      go_wp2_with fail
      go_ret
      exact ⟨-1, rfl, HB.out, .inl ⟨rfl, HK.out⟩⟩
set_option maxHeartbeats 1000000 in
theorem hget_any (v : Value) (l : List Fld) (nm : ByteArray) (w : World) (hv : RdF w v l) (hz : ∀ p ∈ l, FldSm p) (hl : l.length ≤ 100000) (hn : nm.size ≤ 100000) :
    Calls Try.prog 26 #[v, .string nm] w fun e w' => e = .returned (.tuple #[.string (hGet l nm), .bool (hIs l nm)]) ∧ Below w.heap.size w w' := by
  have HV := Kp.mk hv
  have HZ := Kp.mk hz
  obtain ⟨a, cap, rfl, hc1, hc2, -⟩ := hv
  clear hz hc2
  have HBA := Kp.mk (show Below w.heap.size w (w.alloc (.cells #[.string nm] 9)) from (Below.refl _ _).alloc (Nat.le_refl _) _)
  have HC := Kp.mk (blk_cell (i := 0) (heap_alloc_new w (.cells #[.string nm] 9)) rfl)
  have HVA := Kp.mk (HV.out.below HBA.out)
  go_enter Try.func26, Try.ntmps26
  go_wp2_with fail
  refine (ixf_any _ l nm w.heap.size _ HVA.out HC.out (by simp) HZ.out hn (by omega)).mono ?_
  rintro e w1 ⟨r, rfl, hb, hr⟩
  have HB := Kp.mk (HBA.out.trans (hb.mono (by simp)))
  clear hb
  rcases hr with ⟨rfl, h0⟩ | ⟨k, rfl, hlt, h1, h2⟩
  · have HM := Kp.mk (hAll_miss h0)
    clear h0
    go_wp2_with fail
    go_ret2
    exact ⟨by rw [HM.out.1, HM.out.2]; rfl, HB.out⟩
  · have H1 := Kp.mk h1
    have H2 := Kp.mk h2
    clear h1 h2
    obtain ⟨g, o, rfl, hgl, d0⟩ := rdf_cells (HV.out.below HB.out) (by omega)
    obtain ⟨c1, c2⟩ := d0 k hlt
    have q0 : (0 : Int) ≤ (k : Int) := by omega
    have q1 : (k : Int) < (l.length : Int) := by omega
    have q2 : ¬ (k : Int) < 0 := by omega
    clear d0 c1
    generalize l[k].2 = y at *
    go_wp2_with fail
    go_ret2
    exact ⟨by rw [H1.out, H2.out]; rfl, HB.out⟩
end Go.Proofs.Ytahehpgnemanmaa
