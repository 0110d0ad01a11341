/- By whom a message came (layer 20): the hops of fields, the example, the law ViaParses. -/
import Derived.Test.YtkfpioadimkogaaDoorVag
import Derived.Deep.DeepCutAuto
namespace Go.Proofs.YtkfpioadimkogaaDoor
open Go.RowKit
set_option linter.unusedVariables false
set_option linter.unusedSimpArgs false

def nmVia : ByteArray := ⟨#[86, 105, 97]⟩
def viaS (l : List Fld) : ByteArray := hJoin (hAll l nmVia)
def viaL (l : List Fld) : List Hp := hops (splL (viaS l))
set_option maxRecDepth 100000 in
set_option maxHeartbeats 2000000 in
theorem va_all_any (v : Value) (l : List Fld) (w : World) (hv : RdF w v l) (hz : ∀ p ∈ l, FldSm p) (hl : l.length ≤ 100000) (hj : (viaS l).size ≤ 900000) :
    Calls Tryd.prog 18 #[v] w (RetHs (viaL l) w) := by
  have HC := Kp.mk (fun w hv => hcomb_any v l nmVia w hv hz hl (by decide))
  have HX := Kp.mk (show viaL l = hops (splL (viaS l)) from rfl)
  have HS := Kp.mk (show viaS l = hJoin (hAll l nmVia) from rfl)
  have HM := Kp.mk (fun x (h : x ∈ splL (viaS l)) => show x.size ≤ 900000 by have := (splL_mem h).2; omega)
  have hln := splL_len (viaS l)
  rw [← HS.out] at HC
  have HV := Kp.mk hv
  obtain ⟨ad, cap, rfl, -, -, -⟩ := hv
  have HSP := Kp.mk (fun w => split_any (viaS l) w (by omega))
  unfold RetSp at HSP
  generalize splB (viaS l) = sb at *
  generalize splL (viaS l) = L at *
  generalize viaS l = s at *
  go_enter Tryd.func18, Tryd.ntmps18
  go_wp2_with fail
  refine (HC.out _ HV.out).mono ?_
  rintro e w1 ⟨rfl, hb⟩
  have HB1 := Kp.mk hb
  clear hb
  go_wp2_with fail
  refine (HSP.out _).mono ?_
  rintro e w2 ⟨u, rfl, ho, hb⟩
  have HB2 := Kp.mk (HB1.out.trans (hb.mono HB1.out.size))
  have HR := Kp.mk (rds_own ho)
  obtain ⟨a2, c2, rfl⟩ := own_lenH ho
  clear ho hb
  go_wp2_with fail
  refine (va_read_any _ L _ HR.out HM.out (by omega)).mono ?_
  rintro e w3 ⟨u3, rfl, ho, hb⟩
  have HB3 := Kp.mk (HB2.out.trans (hb.mono HB2.out.size))
  have HO := Kp.mk (own_low ho HB2.out.size)
  clear ho hb
  go_wp2_with fail
  go_ret
  exact ⟨_, rfl, by rw [HX.out]; exact HO.out, HB3.out⟩
def exVv : ByteArray := ⟨#[49, 46, 48, 32, 97, 44, 32, 72, 84, 84, 80, 47, 49, 46, 49, 32, 98, 32, 40, 99, 44, 32, 100, 41]⟩
def exV : List Fld := [(nmVia, exVv)]
def exVh : List Hp := [(⟨#[49, 46, 48]⟩, ⟨#[97]⟩, ⟨#[]⟩), (⟨#[72, 84, 84, 80, 47, 49, 46, 49]⟩, ⟨#[98]⟩, ⟨#[40, 99, 44, 32, 100, 41]⟩)]
theorem exV_l : viaL exV = exVh := by decide +kernel
theorem exV_z : (viaS exV).size ≤ 900000 := by decide +kernel
theorem exV_sm : ∀ p ∈ exV, FldSm p := fun p hp => by
  have : p = (nmVia, exVv) := by simpa [exV] using hp
  subst this
  exact ⟨by decide, by decide⟩
theorem exV_t : vaTx ⟨#[49, 46, 49]⟩ ⟨#[120]⟩ ⟨#[]⟩ = ⟨#[49, 46, 49, 32, 120]⟩ := by decide +kernel
set_option maxRecDepth 100000 in
set_option maxHeartbeats 2000000 in
theorem lives20_any (w : World) : Calls Tryd.prog 9 #[] w fun e w' => e = .returned (.bool true) ∧ Below w.heap.size w w' := by
  have HB0 := Kp.mk ((Below.refl w.heap.size w).alloc (Nat.le_refl _) (.cells (fvH exV).toArray 59))
  have R0 := Kp.mk (rdf_own (l := exV) (World.ownsRow_lit (base := w.heap.size) (e := 59) (size := 2) w (fvH exV).toArray 1 (Nat.le_refl _) (by unfold maxLen; omega) rfl))
  have HT := Kp.mk (fun w => va_text_any ⟨#[49, 46, 49]⟩ ⟨#[120]⟩ ⟨#[]⟩ w (by decide) (by decide) (by decide))
  rw [exV_t] at HT
  have HA := Kp.mk (fun v w hv => va_all_any v exV w hv exV_sm (by decide) exV_z)
  unfold RetHs at HA
  rw [exV_l] at HA
  go_enter Tryd.func9, Tryd.ntmps9
  go_wp2_with fail
  refine (HA.out _ _ R0.out).mono ?_
  rintro e w1 ⟨u, rfl, ho, hb⟩
  have HB1 := Kp.mk (HB0.out.trans (hb.mono HB0.out.size))
  have RA := Kp.mk (rdp_own ho)
  obtain ⟨a2, c2, rfl⟩ := own_lenH ho
  have RL := Kp.mk (rdp_own (l := exVh) (World.ownsRow_lit (base := w1.heap.size) (e := 26) (size := 3) w1 (hvH exVh).toArray 2 (Nat.le_refl _) (by unfold maxLen; omega) rfl))
  have HBL := Kp.mk ((Below.refl w1.heap.size w1).alloc (Nat.le_refl _) (.cells (hvH exVh).toArray 26))
  clear ho hb
  go_wp2_with fail
  refine (same20_any _ _ exVh _ (RA.out.below HBL.out) RL.out (by decide)).mono ?_
  rintro e w2 ⟨rfl, hb⟩
  have HB2 := Kp.mk ((HB1.out.trans (HBL.out.mono HB1.out.size)).trans (hb.mono (HB1.out.trans (HBL.out.mono HB1.out.size)).size))
  clear hb
  go_wp2_with fail
  refine (HT.out _).mono ?_
  rintro e w3 ⟨rfl, hb⟩
  have HB3 := Kp.mk (HB2.out.trans (hb.mono HB2.out.size))
  clear hb
  go_wp2_with fail
  go_ret
  exact ⟨rfl, HB3.out⟩
/-! ### The law ViaParses -/
structure VpS (a b c V B C : ByteArray) (q1 q2 : Nat) (w W : World) : Prop where
  b0 : Bl W w.heap.size 26 #[.string a, .string b, .string c]
  b1 : Bl W q1 26 #[.string V, .string B, .string C]
  b2 : Bl W q2 26 #[.string V, .string B, .string C]
  bel : Below w.heap.size w W
theorem VpS.below {a b c V B C : ByteArray} {q1 q2 : Nat} {w W W2 : World} (h : VpS a b c V B C q1 q2 w W) (hb : Below W.heap.size W W2) : VpS a b c V B C q1 q2 w W2 := ⟨h.b0.below hb, h.b1.below hb, h.b2.below hb, h.bel.trans (hb.mono h.bel.size)⟩
/-! ### What came in -/
theorem Tryd.cellsHop : Tryd.prog.cellsOf 26 = 3 := by kernel_rfl
theorem Tryd.cellsSt20 : Tryd.prog.cellsOf 9 = 1 := by kernel_rfl
set_option maxRecDepth 100000 in
theorem hop_arg (v : Value) (w : World) (h : Arg Tryd.prog w 26 v) : ∃ (a b c : ByteArray), v = .agg #[.string a, .string b, .string c] ∧ a.size ≤ maxLen ∧ b.size ≤ maxLen ∧ c.size ≤ maxLen := by
  obtain ⟨cs, rfl, hr⟩ := h.struct Tryd.underlying26
  obtain ⟨hl, hf⟩ := hr.struct Tryd.underlying26
  rw [Tryd.cellsHop] at hl
  have f0 : Rdb Tryd.prog w 9 ((cs.drop 0).take (Tryd.prog.cellsOf 9)) := hf 0 _ rfl
  rw [Tryd.cellsSt20] at f0
  have f1 : Rdb Tryd.prog w 9 ((cs.drop 1).take (Tryd.prog.cellsOf 9)) := hf 1 _ rfl
  rw [Tryd.cellsSt20] at f1
  have f2 : Rdb Tryd.prog w 9 ((cs.drop 2).take (Tryd.prog.cellsOf 9)) := hf 2 _ rfl
  rw [Tryd.cellsSt20] at f2
  obtain ⟨m, k0, z0⟩ := f0.str Tryd.underlying9
  obtain ⟨t, k1, z1⟩ := f1.str Tryd.underlying9
  obtain ⟨r, k2, z2⟩ := f2.str Tryd.underlying9
  match cs, hl with
  | [x0, x1, x2], _ =>
    simp at k0 k1 k2
    exact ⟨m, t, r, by rw [k0, k1, k2], z0, z1, z2⟩
end Go.Proofs.YtkfpioadimkogaaDoor
