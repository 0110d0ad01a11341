/- By whom a message came (layer 20): who is among the hops, a hop more; both sides; the law ViaLoops. -/
import Derived.Test.YtkfpioadimkogaaDoorVah
import Derived.Test.YtkfpioadimkogaaDoorCna
import Derived.Test.YtkfpioadimkogaaDoorHdi
namespace Go.Proofs.YtkfpioadimkogaaDoor
open Go.RowKit
set_option linter.unusedVariables false
set_option linter.unusedSimpArgs false

theorem vaR_by {x : ByteArray} (h : x.size ≤ 900000) : (vaR x).2.1.size ≤ 900000 := by
  unfold vaR
  split
  · show (byB (vaL x)).size ≤ 900000
    rw [byB_size, vaL_eq]
    have := preN_le vaNB (fromB x (preN vaNB x + vaGap x))
    rw [fromB_size] at this
    omega
  · exact Nat.zero_le _
theorem hops_sm {L : List ByteArray} (h : ∀ x ∈ L, x.size ≤ 900000) : ∀ p ∈ hops L, p.2.1.size ≤ 900000 := fun p hp => by
  unfold hops hopL at hp
  obtain ⟨x, hx, rfl⟩ := List.mem_map.1 hp
  rw [List.take_length] at hx
  exact vaR_by (h x (List.mem_filter.1 hx).1)
theorem hops_len (L : List ByteArray) : (hops L).length ≤ L.length := hopL_len L _
theorem viaL_sm {l : List Fld} (hj : (viaS l).size ≤ 900000) : ∀ p ∈ viaL l, p.2.1.size ≤ 900000 := hops_sm fun x hx => by have := (splL_mem hx).2; omega
theorem viaL_len (l : List Fld) (hj : (viaS l).size ≤ 900000) : (viaL l).length ≤ 1000000 := by
  have h1 := hops_len (splL (viaS l))
  have h2 := splL_len (viaS l)
  unfold viaL
  omega
/-- P20.2: is somebody among them? -/
def lpB (nm : ByteArray) (l : List Hp) : Bool := l.any fun h => foldB h.2.1 nm
theorem lpB_take {nm : ByteArray} {l : List Hp} {k : Nat} (h : k < l.length) : lpB nm (l.take (k + 1)) = (lpB nm (l.take k) || foldB l[k].2.1 nm) := by
  unfold lpB
  rw [List.take_succ_eq_append_getElem h, List.any_append]
  simp
theorem lpB_hit {nm : ByteArray} {l : List Hp} {k : Nat} (h : k < l.length) (hf : foldB l[k].2.1 nm = true) : lpB nm l = true := List.any_eq_true.2 ⟨_, List.getElem_mem h, hf⟩
theorem lp1_any (V B C nm : ByteArray) (bx : Nat) (w : World) (hc : w.cell? ⟨bx, 0, none⟩ = some (.string nm)) (hbx : bx < w.heap.size) (hn : nm.size ≤ 1000000) (hx : B.size ≤ 1000000) :
    Calls Tryd.prog 52 #[.agg #[.string V, .string B, .string C], .pointer (some ⟨bx, 0, none⟩)] w fun e w' => e = .returned (.bool (foldB B nm)) ∧ Below w.heap.size w w' := by
  have hc2 : (w.alloc (.cells #[.string V, .string B, .string C] 26)).cell? ⟨bx, 0, none⟩ = some (.string nm) := (((Below.refl w.heap.size w).alloc (Nat.le_refl _) _).cell (p := ⟨bx, 0, none⟩) hbx).trans hc
  go_enter Tryd.func52, Tryd.ntmps52
  go_wp2_with fail
  refine (oct_fold_any _ _ _ (by omega) (by omega)).mono ?_
  rintro e w1 ⟨rfl, hb⟩
  go_wp2_with fail
  go_ret
  exact ⟨rfl, ((Below.refl w.heap.size w).alloc (Nat.le_refl _) (.cells #[.string V, .string B, .string C] 26)).trans (hb.mono (by simp))⟩
def IdhPost (l : List Hp) (nm : ByteArray) (w : World) (e : Ending) (w' : World) : Prop := ∃ r : Int, e = .returned (.int .i64 r) ∧ decide (0 ≤ r) = lpB nm l ∧ Below w.heap.size w w'
set_option maxRecDepth 100000 in
set_option maxHeartbeats 2000000 in
theorem ixh_any (v : Value) (l : List Hp) (nm : ByteArray) (bx : Nat) (w : World) (hv : RdP w v l) (hc : w.cell? ⟨bx, 0, none⟩ = some (.string nm)) (hbx : bx < w.heap.size) (hz : ∀ p ∈ l, p.2.1.size ≤ 900000) (hn : nm.size ≤ 1000000) (hl : l.length ≤ 1000000) :
    Calls Tryd.prog 91 #[v, .func (.func 52) #[] #[.pointer (some ⟨bx, 0, none⟩)]] w (IdhPost l nm w) := by
  have HV := Kp.mk hv
  have HZ := Kp.mk hz
  have HC := Kp.mk hc
  obtain ⟨a, cap, rfl, hc1, hc2, -⟩ := hv
  clear hz hc hc2
  go_enter Tryd.func91, Tryd.ntmps91
  go_wp2_with fail
  go_loopw [8] (fun i wr => ∃ k : Nat, k ≤ l.length ∧ i = .int .i64 k ∧ lpB nm (l.take k) = false ∧ Below w.heap.size w wr) (fun i _ => l.length - (intOf i).toNat)
  case atStart => exact ⟨0, by omega, rfl, rfl, Below.refl _ _⟩
  case round =>
    obtain ⟨k, hk, rfl, hh, hb⟩ := hrel
    have HB := Kp.mk hb
    have HH := Kp.mk hh
    have HCK := Kp.mk ((hb.cell (p := ⟨bx, 0, none⟩) hbx).trans HC.out)
    have hsz := hb.size
    clear hh hb
    by_cases hlt : k < l.length
    · obtain ⟨g, o, rfl, hgl, d0⟩ := rdp_cells (HV.out.below HB.out) (by omega)
      obtain ⟨c1, c2, c3⟩ := d0 k hlt
      have m1 := HZ.out l[k] (List.getElem_mem hlt)
      have q0 : (0 : Int) ≤ (k : Int) := by omega
      have q1 : (k : Int) < (l.length : Int) := by omega
      have HT := Kp.mk (lpB_take (nm := nm) hlt)
      have HHit := Kp.mk (fun h => lpB_hit (nm := nm) hlt h)
      clear d0
      generalize l[k].1 = x1 at *
      generalize l[k].2.1 = x2 at *
      generalize l[k].2.2 = x3 at *
      go_wp2_with fail
      refine (lp1_any x1 x2 x3 nm bx _ HCK.out (by omega) hn (by omega)).mono ?_
      rintro e w2 ⟨rfl, hb2⟩
      have HB2 := Kp.mk (HB.out.trans (hb2.mono hsz))
      clear hb2
      cases hf : foldB x2 nm
      · have HT2 := Kp.mk (show lpB nm (l.take (k + 1)) = false by rw [HT.out, hf, HH.out]; rfl)
        go_wp2_with fail
        go_roundw
        case rel => exact ⟨k + 1, by omega, by go_num, HT2.out, HB2.out⟩
        case measure => simp [intOf]; omega
      · have HT2 := Kp.mk (HHit.out hf)
        go_wp2_with fail
        go_ret
        exact ⟨_, rfl, by rw [HT2.out]; exact decide_eq_true (by omega), HB2.out⟩
    · have HK := Kp.mk (show lpB nm l = false by have := HH.out; rwa [List.take_of_length_le (by omega)] at this)
      go_wp2_with fail
      go_ret
      exact ⟨-1, rfl, by rw [HK.out]; rfl, HB.out⟩
theorem coh_any (v : Value) (l : List Hp) (nm : ByteArray) (bx : Nat) (w : World) (hv : RdP w v l) (hc : w.cell? ⟨bx, 0, none⟩ = some (.string nm)) (hbx : bx < w.heap.size) (hz : ∀ p ∈ l, p.2.1.size ≤ 900000) (hn : nm.size ≤ 1000000) (hl : l.length ≤ 1000000) :
    Calls Tryd.prog 51 #[v, .func (.func 52) #[] #[.pointer (some ⟨bx, 0, none⟩)]] w fun e w' => e = .returned (.bool (lpB nm l)) ∧ Below w.heap.size w w' := by
  have HC := Kp.mk hc
  have HV := Kp.mk hv
  have HZ := Kp.mk hz
  clear hc hv hz
  go_enter Tryd.func51, Tryd.ntmps51
  go_wp2_with fail
  refine (ixh_any v l nm bx _ HV.out HC.out hbx HZ.out hn hl).mono ?_
  rintro e w1 ⟨r, rfl, hr, hb⟩
  have HR := Kp.mk hr
  clear hr
  go_wp2_with fail
  go_ret
  exact ⟨by rw [← HR.out]; rfl, hb⟩
set_option maxRecDepth 100000 in
set_option maxHeartbeats 2000000 in
theorem va_loops_any (v : Value) (l : List Fld) (nm : ByteArray) (w : World) (hv : RdF w v l) (hz : ∀ p ∈ l, FldSm p) (hl : l.length ≤ 100000) (hj : (viaS l).size ≤ 900000) (hn : nm.size ≤ 1000000) :
    Calls Tryd.prog 15 #[v, .string nm] w fun e w' => e = .returned (.bool (lpB nm (viaL l))) ∧ Below w.heap.size w w' := by
  have HA := Kp.mk (fun w hv => va_all_any v l w hv hz hl hj)
  unfold RetHs at HA
  have HZ := Kp.mk (viaL_sm hj)
  have hln := viaL_len l hj
  have HV := Kp.mk hv
  have B0 := Kp.mk (Bl.new w 9 #[.string nm])
  have E0 := Kp.mk (vab1 w (.cells #[.string nm] 9))
  obtain ⟨ad, cap, rfl, -, -, -⟩ := hv
  generalize viaL l = M at *
  go_enter Tryd.func15, Tryd.ntmps15
  go_wp2_with fail
  refine (HA.out _ (HV.out.below E0.out)).mono ?_
  rintro e w1 ⟨u, rfl, ho, hb⟩
  have B1 := Kp.mk (B0.out.below hb)
  have E1 := Kp.mk (E0.out.trans (hb.mono E0.out.size))
  have RA := Kp.mk (rdp_own ho)
  obtain ⟨a2, c2, rfl⟩ := own_lenH ho
  clear ho hb
  go_wp2_with fail
  refine (coh_any _ M nm w.heap.size _ RA.out (B1.out.cell 0) B1.out.lt HZ.out hn hln).mono ?_
  rintro e w2 ⟨rfl, hb⟩
  have E2 := Kp.mk (E1.out.trans (hb.mono E1.out.size))
  clear hb
  go_wp2_with fail
  go_ret
  exact ⟨rfl, E2.out⟩
/-! ### The document's -/
/-! ### A hop more -/
def apV (minor : Int) (nm : ByteArray) : ByteArray := (if 0 < minor then ⟨#[49, 46, 49, 32]⟩ else ⟨#[49, 46, 48, 32]⟩) ++ nm
def apL (l : List Fld) (minor : Int) (nm : ByteArray) : List Fld := l ++ [(nmVia, apV minor nm)]
theorem vaTx_v1 (nm : ByteArray) : vaTx ⟨#[49, 46, 49]⟩ nm ⟨#[]⟩ = ⟨#[49, 46, 49, 32]⟩ ++ nm := ba_ext (by
  rw [show vaTx ⟨#[49, 46, 49]⟩ nm ⟨#[]⟩ = ⟨#[49, 46, 49]⟩ ++ ⟨#[32]⟩ ++ nm from if_pos rfl, cat_app, cat_app, cat_app]; rfl)
theorem vaTx_v0 (nm : ByteArray) : vaTx ⟨#[49, 46, 48]⟩ nm ⟨#[]⟩ = ⟨#[49, 46, 48, 32]⟩ ++ nm := ba_ext (by
  rw [show vaTx ⟨#[49, 46, 48]⟩ nm ⟨#[]⟩ = ⟨#[49, 46, 48]⟩ ++ ⟨#[32]⟩ ++ nm from if_pos rfl, cat_app, cat_app, cat_app]; rfl)
set_option maxRecDepth 100000 in
set_option maxHeartbeats 2000000 in
theorem va_append_any (v : Value) (l : List Fld) (minor : Int) (nm : ByteArray) (w : World) (hv : RdF w v l) (hl : l.length ≤ 100000) (hn : nm.size ≤ 1000000) :
    Calls Tryd.prog 16 #[v, .int .i64 minor, .string nm] w (RetF (apL l minor nm) w) := by
  have HW := Kp.mk (fun w hv => hwith_any v l nmVia (apV minor nm) w hv hl)
  have HX := Kp.mk (show apL l minor nm = l ++ [(nmVia, apV minor nm)] from rfl)
  unfold RetF at HW
  rw [← HX.out] at HW
  have HV := Kp.mk hv
  obtain ⟨ad, cap, rfl, -, -, -⟩ := hv
  by_cases h : 0 < minor
  · have HT := Kp.mk (fun w => va_text_any ⟨#[49, 46, 49]⟩ nm ⟨#[]⟩ w (by decide) hn (by decide))
    rw [vaTx_v1, show (⟨#[49, 46, 49, 32]⟩ : ByteArray) ++ nm = apV minor nm by unfold apV; rw [if_pos h]] at HT
    have h2 : ¬ minor ≤ 0 := by omega
    generalize apV minor nm = y at *
    generalize apL l minor nm = M at *
    go_enter Tryd.func16, Tryd.ntmps16
    go_wp2_with fail
    refine (HT.out _).mono ?_
    rintro e w1 ⟨rfl, hb⟩
    have HB1 := Kp.mk hb
    clear hb
    go_wp2_with fail
    refine (HW.out _ (HV.out.below HB1.out)).mono ?_
    rintro e w2 ⟨u, rfl, ho, hb⟩
    have HB2 := Kp.mk (HB1.out.trans (hb.mono HB1.out.size))
    have HO := Kp.mk (own_low ho HB1.out.size)
    clear ho hb
    go_wp2_with fail
    go_ret
    exact ⟨_, rfl, HO.out, HB2.out⟩
  · have HT := Kp.mk (fun w => va_text_any ⟨#[49, 46, 48]⟩ nm ⟨#[]⟩ w (by decide) hn (by decide))
    rw [vaTx_v0, show (⟨#[49, 46, 48, 32]⟩ : ByteArray) ++ nm = apV minor nm by unfold apV; rw [if_neg h]] at HT
    have h2 : minor ≤ 0 := by omega
    generalize apV minor nm = y at *
    generalize apL l minor nm = M at *
    go_enter Tryd.func16, Tryd.ntmps16
    go_wp2_with fail
    refine (HT.out _).mono ?_
    rintro e w1 ⟨rfl, hb⟩
    have HB1 := Kp.mk hb
    clear hb
    go_wp2_with fail
    refine (HW.out _ (HV.out.below HB1.out)).mono ?_
    rintro e w2 ⟨u, rfl, ho, hb⟩
    have HB2 := Kp.mk (HB1.out.trans (hb.mono HB1.out.size))
    have HO := Kp.mk (own_low ho HB1.out.size)
    clear ho hb
    go_wp2_with fail
    go_ret
    exact ⟨_, rfl, HO.out, HB2.out⟩
/-! ### The law ViaLoops -/
theorem sameL_va {α : Type} [DecidableEq α] (l : List α) : sameL l l = true := decide_eq_true rfl
set_option maxRecDepth 100000 in
theorem hlist_va (v : Value) (w : World) (h : Arg Tryd.prog w 22 v) : ∃ l, RdF w v l ∧ ∀ p ∈ l, FldOk p :=
  h.list (f := fldC) (Q := FldOk) Tryd.underlying22 Tryd.fcellsFld (by omega) fun E hE =>
    fld_of Tryd.underlying59 Tryd.underlying9 Tryd.fcellsFld Tryd.fcellsFs ⟨_, rfl, rfl, rfl⟩ ⟨_, rfl, rfl, rfl⟩ hE
end Go.Proofs.YtkfpioadimkogaaDoor
