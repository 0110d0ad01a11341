/- By whom a message came (layer 20): the hops of fields, the example, the law ViaParses. -/
import Derived.Test.YtahehpgnemanmaaDoorVag
import Derived.Deep.DeepCutAuto
namespace Go.Proofs.YtahehpgnemanmaaDoor
open Go.RowKit
set_option linter.unusedVariables false
set_option linter.unusedSimpArgs false

def nmVia : ByteArray := ⟨#[86, 105, 97]⟩
def viaS (l : List Fld) : ByteArray := hJoin (hAll l nmVia)
def viaL (l : List Fld) : List Hp := hops (splL (viaS l))
set_option maxRecDepth 100000 in
set_option maxHeartbeats 2000000 in
theorem va_all_any (v : Value) (l : List Fld) (w : World) (hv : RdF w v l) (hz : ∀ p ∈ l, FldSm p) (hl : l.length ≤ 100000) (hj : (viaS l).size ≤ 900000) :
    Calls Tryd.prog 27 #[v] w (RetHs (viaL l) w) := by
  have HC := Kp.mk (fun w hv => hcomb_any v l nmVia w hv hz hl (by decide))
  have HX := Kp.mk (show viaL l = hops (splL (viaS l)) from rfl)
  have HS := Kp.mk (show viaS l = hJoin (hAll l nmVia) from rfl)
  have HM := Kp.mk (fun x (h : x ∈ splL (viaS l)) => show x.size ≤ 900000 by have := (splL_mem h).2; omega)
  have hln := splL_len (viaS l)
  rw [← HS.out] at HC
  have HV := Kp.mk hv
  obtain ⟨ad, cap, rfl, -, -, -⟩ := hv
  have HSP := Kp.mk (fun w => split_any (viaS l) w (by omega))
  unfold RetSp at HSP
  generalize splB (viaS l) = sb at *
  generalize splL (viaS l) = L at *
  generalize viaS l = s at *
  go_enter Tryd.func27, Tryd.ntmps27
  go_wp2_with fail
  refine (HC.out _ HV.out).mono ?_
  rintro e w1 ⟨rfl, hb⟩
  have HB1 := Kp.mk hb
  clear hb
  go_wp2_with fail
  refine (HSP.out _).mono ?_
  rintro e w2 ⟨u, rfl, ho, hb⟩
  have HB2 := Kp.mk (HB1.out.trans (hb.mono HB1.out.size))
  have HR := Kp.mk (rds_own ho)
  obtain ⟨a2, c2, rfl⟩ := own_lenH ho
  clear ho hb
  go_wp2_with fail
  refine (va_read_any _ L _ HR.out HM.out (by omega)).mono ?_
  rintro e w3 ⟨u3, rfl, ho, hb⟩
  have HB3 := Kp.mk (HB2.out.trans (hb.mono HB2.out.size))
  have HO := Kp.mk (own_low ho HB2.out.size)
  clear ho hb
  go_wp2_with fail
  go_ret
  exact ⟨_, rfl, by rw [HX.out]; exact HO.out, HB3.out⟩
def exVv : ByteArray := ⟨#[49, 46, 48, 32, 97, 44, 32, 72, 84, 84, 80, 47, 49, 46, 49, 32, 98, 32, 40, 99, 44, 32, 100, 41]⟩
def exV : List Fld := [(nmVia, exVv)]
def exVh : List Hp := [(⟨#[49, 46, 48]⟩, ⟨#[97]⟩, ⟨#[]⟩), (⟨#[72, 84, 84, 80, 47, 49, 46, 49]⟩, ⟨#[98]⟩, ⟨#[40, 99, 44, 32, 100, 41]⟩)]
theorem exV_l : viaL exV = exVh := by decide +kernel
theorem exV_z : (viaS exV).size ≤ 900000 := by decide +kernel
theorem exV_sm : ∀ p ∈ exV, FldSm p := fun p hp => by
  have : p = (nmVia, exVv) := by simpa [exV] using hp
  subst this
  exact ⟨by decide, by decide⟩
theorem exV_t : vaTx ⟨#[49, 46, 49]⟩ ⟨#[120]⟩ ⟨#[]⟩ = ⟨#[49, 46, 49, 32, 120]⟩ := by decide +kernel
set_option maxRecDepth 100000 in
set_option maxHeartbeats 2000000 in
theorem lives20_any (w : World) : Calls Tryd.prog 15 #[] w fun e w' => e = .returned (.bool true) ∧ Below w.heap.size w w' := by
  have HB0 := Kp.mk ((Below.refl w.heap.size w).alloc (Nat.le_refl _) (.cells (fvH exV).toArray 59))
  have R0 := Kp.mk (rdf_own (l := exV) (World.ownsRow_lit (base := w.heap.size) (e := 59) (size := 2) w (fvH exV).toArray 1 (Nat.le_refl _) (by unfold maxLen; omega) rfl))
  have HT := Kp.mk (fun w => va_text_any ⟨#[49, 46, 49]⟩ ⟨#[120]⟩ ⟨#[]⟩ w (by decide) (by decide) (by decide))
  rw [exV_t] at HT
  have HA := Kp.mk (fun v w hv => va_all_any v exV w hv exV_sm (by decide) exV_z)
  unfold RetHs at HA
  rw [exV_l] at HA
  go_enter Tryd.func15, Tryd.ntmps15
  go_wp2_with fail
  refine (HA.out _ _ R0.out).mono ?_
  rintro e w1 ⟨u, rfl, ho, hb⟩
  have HB1 := Kp.mk (HB0.out.trans (hb.mono HB0.out.size))
  have RA := Kp.mk (rdp_own ho)
  obtain ⟨a2, c2, rfl⟩ := own_lenH ho
  have RL := Kp.mk (rdp_own (l := exVh) (World.ownsRow_lit (base := w1.heap.size) (e := 33) (size := 3) w1 (hvH exVh).toArray 2 (Nat.le_refl _) (by unfold maxLen; omega) rfl))
  have HBL := Kp.mk ((Below.refl w1.heap.size w1).alloc (Nat.le_refl _) (.cells (hvH exVh).toArray 33))
  clear ho hb
  go_wp2_with fail
  refine (same20_any _ _ exVh _ (RA.out.below HBL.out) RL.out (by decide)).mono ?_
  rintro e w2 ⟨rfl, hb⟩
  have HB2 := Kp.mk ((HB1.out.trans (HBL.out.mono HB1.out.size)).trans (hb.mono (HB1.out.trans (HBL.out.mono HB1.out.size)).size))
  clear hb
  go_wp2_with fail
  refine (HT.out _).mono ?_
  rintro e w3 ⟨rfl, hb⟩
  have HB3 := Kp.mk (HB2.out.trans (hb.mono HB2.out.size))
  clear hb
  go_wp2_with fail
  go_ret
  exact ⟨rfl, HB3.out⟩
/-! ### The law ViaParses -/
structure VpS (a b c V B C : ByteArray) (q1 q2 : Nat) (w W : World) : Prop where
  b0 : Bl W w.heap.size 33 #[.string a, .string b, .string c]
  b1 : Bl W q1 33 #[.string V, .string B, .string C]
  b2 : Bl W q2 33 #[.string V, .string B, .string C]
  bel : Below w.heap.size w W
theorem VpS.below {a b c V B C : ByteArray} {q1 q2 : Nat} {w W W2 : World} (h : VpS a b c V B C q1 q2 w W) (hb : Below W.heap.size W W2) : VpS a b c V B C q1 q2 w W2 := ⟨h.b0.below hb, h.b1.below hb, h.b2.below hb, h.bel.trans (hb.mono h.bel.size)⟩
set_option maxRecDepth 100000 in
set_option maxHeartbeats 4000000 in
theorem vparses_walk (s0 a b c : ByteArray) (w : World) (hs : s0.size ≤ maxLen) (ha : a.size ≤ maxLen) (hb : b.size ≤ maxLen) (hc : c.size ≤ maxLen) :
    Calls Tryd.prog 6 #[.string s0, .agg #[.string a, .string b, .string c]] w fun e w' => e = .returned (.bool true) ∧ Below w.heap.size w w' := by
  unfold maxLen at hs ha hb hc
  have HA := Kp.mk (extract_le s0 500)
  have B0 := Kp.mk (Bl.new w 33 #[.string a, .string b, .string c])
  have E0 := Kp.mk (vab1 w (.cells #[.string a, .string b, .string c] 33))
  go_enter Tryd.func6, Tryd.ntmps6
  go_upto_region 1 with fail
  go_cut [0] (fun u0 wx => ∃ s : ByteArray, u0 = .string s ∧ s.size ≤ 500 ∧ wx = w.alloc (.cells #[.string a, .string b, .string c] 33))
  case first =>
    by_cases hq : s0.size ≤ 500
    · have q1 : ¬ (500 : Int) < (s0.size : Int) := by omega
      go_wp2_with fail
      go_meet
      refine ⟨_, rfl, ?_, rfl⟩
      first | omega | (simp; omega) | (rw [ByteArray.size_extract]; omega)
    · have q1 : (500 : Int) < (s0.size : Int) := by omega
      go_wp2_with fail
      go_meet
      refine ⟨_, rfl, ?_, rfl⟩
      first | exact HA.out | omega | (simp; omega) | (rw [ByteArray.size_extract]; omega)
  case rest =>
    obtain ⟨s, rfl, hsz, rfl⟩ := hcut
    clear HA hs
    have fin : ∀ W, Below w.heap.size w W → True := fun _ _ => trivial
    clear fin
    by_cases g1 : a.size ≤ 300
    · by_cases g2 : b.size ≤ 300
      · by_cases g3 : c.size ≤ 300
        · have q1 : ¬ (300 : Int) < (a.size : Int) := by omega
          have q2 : ¬ (300 : Int) < (b.size : Int) := by omega
          have q3 : ¬ (300 : Int) < (c.size : Int) := by omega
          have P1 := Kp.mk (fun w => va_parse_any s w (by omega))
          have P2 := Kp.mk (fun w => rva_parse_any s w (by omega))
          have P3 := Kp.mk (fun w => va_text_any a b c w (by omega) (by omega) (by omega))
          have P4 := Kp.mk (fun w => rva_text_any a b c w (by omega) (by omega) (by omega))
          unfold RetHp at P1 P2
          generalize vaR s = R at *
          obtain ⟨V, B, C⟩ := R
          unfold vaH at P1 P2
          dsimp only at P1 P2
          generalize vaE s = E at *
          generalize vaTx a b c = T at *
          have h8 : (E == E) = true := by simp
          go_wp2_with fail
          refine (P1.out _).mono ?_
          rintro e w1 ⟨rfl, hb1⟩
          have K1 := Kp.mk (Bl.new w1 33 #[.string V, .string B, .string C])
          have B1 := Kp.mk ((B0.out.below hb1).alloc (.cells #[.string V, .string B, .string C] 33))
          have E1a := Kp.mk (E0.out.trans (hb1.mono E0.out.size))
          have E1 := Kp.mk (E1a.out.alloc E1a.out.size (.cells #[.string V, .string B, .string C] 33))
          clear hb1
          go_wp2_with fail
          refine (P2.out _).mono ?_
          rintro e w2 ⟨rfl, hb2⟩
          have K2 := Kp.mk (Bl.new w2 33 #[.string V, .string B, .string C])
          have E2 := Kp.mk (E1.out.trans (hb2.mono E1.out.size))
          have Y := Kp.mk (show VpS a b c V B C w1.heap.size w2.heap.size w (w2.alloc (.cells #[.string V, .string B, .string C] 33)) from
            ⟨(B1.out.below hb2).alloc _, (K1.out.below hb2).alloc _, K2.out, E2.out.alloc E2.out.size _⟩)
          clear hb2
          have HD := Kp.mk (Y.out.below (gdrewN _ 1))
          have p0 := fun p : InS (VpS a b c V B C w1.heap.size w2.heap.size w) => p.ok.b0.cell 0
          have p1 := fun p : InS (VpS a b c V B C w1.heap.size w2.heap.size w) => p.ok.b0.cell 1
          have p2 := fun p : InS (VpS a b c V B C w1.heap.size w2.heap.size w) => p.ok.b0.cell 2
          have p3 := fun p : InS (VpS a b c V B C w1.heap.size w2.heap.size w) => p.ok.b0.lt
          have r0 := fun p : InS (VpS a b c V B C w1.heap.size w2.heap.size w) => p.ok.b1.cell 0
          have r1 := fun p : InS (VpS a b c V B C w1.heap.size w2.heap.size w) => p.ok.b1.cell 1
          have r2 := fun p : InS (VpS a b c V B C w1.heap.size w2.heap.size w) => p.ok.b1.cell 2
          have r3 := fun p : InS (VpS a b c V B C w1.heap.size w2.heap.size w) => p.ok.b1.lt
          have t0 := fun p : InS (VpS a b c V B C w1.heap.size w2.heap.size w) => p.ok.b2.cell 0
          have t1 := fun p : InS (VpS a b c V B C w1.heap.size w2.heap.size w) => p.ok.b2.cell 1
          have t2 := fun p : InS (VpS a b c V B C w1.heap.size w2.heap.size w) => p.ok.b2.cell 2
          have t3 := fun p : InS (VpS a b c V B C w1.heap.size w2.heap.size w) => p.ok.b2.lt
          simp at p0 p1 p2 r0 r1 r2 t0 t1 t2
          haveI hne : Nonempty (InS (VpS a b c V B C w1.heap.size w2.heap.size w)) := ⟨⟨_, Y.out⟩⟩
          go_wp2_with fail
          refine region_in _ (by kernel_rfl) (by kernel_rfl) HD.out ?_
          repeat (go_big_quiet_step (first
            | (go_at_call 18; exact call_in fun w h => (P3.out w).mono fun _ _ h2 => ⟨h2.1, h.below h2.2⟩)
            | (go_at_call 19; exact call_in fun w h => (P4.out w).mono fun _ _ h2 => ⟨h2.1, h.below h2.2⟩)
            | (go_at_call 15; exact call_in fun w h => (lives20_any w).mono fun _ _ h2 => ⟨h2.1, h.below h2.2⟩)))
          refine wpQuiet_nil ?_
          intro _ hw'
          obtain ⟨wq, rfl⟩ := hw'
          have HQ := Kp.mk wq.ok.bel
          go_wp2_with fail
          go_ret
          exact ⟨rfl, HQ.out⟩
        · have q1 : ¬ (300 : Int) < (a.size : Int) := by omega
          have q2 : ¬ (300 : Int) < (b.size : Int) := by omega
          have q3 : (300 : Int) < (c.size : Int) := by omega
          go_wp2_with fail
          refine (lives20_any _).mono ?_
          rintro e w9 ⟨rfl, hb9⟩
          have HB9 := Kp.mk (E0.out.trans (hb9.mono E0.out.size))
          clear hb9
          go_wp2_with fail
          go_ret
          exact ⟨rfl, HB9.out⟩
      · have q1 : ¬ (300 : Int) < (a.size : Int) := by omega
        have q2 : (300 : Int) < (b.size : Int) := by omega
        go_wp2_with fail
        refine (lives20_any _).mono ?_
        rintro e w9 ⟨rfl, hb9⟩
        have HB9 := Kp.mk (E0.out.trans (hb9.mono E0.out.size))
        clear hb9
        go_wp2_with fail
        go_ret
        exact ⟨rfl, HB9.out⟩
    · have q1 : (300 : Int) < (a.size : Int) := by omega
      go_wp2_with fail
      refine (lives20_any _).mono ?_
      rintro e w9 ⟨rfl, hb9⟩
      have HB9 := Kp.mk (E0.out.trans (hb9.mono E0.out.size))
      clear hb9
      go_wp2_with fail
      go_ret
      exact ⟨rfl, HB9.out⟩
/-! ### What came in -/
theorem Tryd.cellsHop : Tryd.prog.cellsOf 33 = 3 := by kernel_rfl
theorem Tryd.cellsSt20 : Tryd.prog.cellsOf 9 = 1 := by kernel_rfl
set_option maxRecDepth 100000 in
theorem hop_arg (v : Value) (w : World) (h : Arg Tryd.prog w 33 v) : ∃ (a b c : ByteArray), v = .agg #[.string a, .string b, .string c] ∧ a.size ≤ maxLen ∧ b.size ≤ maxLen ∧ c.size ≤ maxLen := by
  obtain ⟨cs, rfl, hr⟩ := h.struct Tryd.underlying33
  obtain ⟨hl, hf⟩ := hr.struct Tryd.underlying33
  rw [Tryd.cellsHop] at hl
  have f0 : Rdb Tryd.prog w 9 ((cs.drop 0).take (Tryd.prog.cellsOf 9)) := hf 0 _ rfl
  rw [Tryd.cellsSt20] at f0
  have f1 : Rdb Tryd.prog w 9 ((cs.drop 1).take (Tryd.prog.cellsOf 9)) := hf 1 _ rfl
  rw [Tryd.cellsSt20] at f1
  have f2 : Rdb Tryd.prog w 9 ((cs.drop 2).take (Tryd.prog.cellsOf 9)) := hf 2 _ rfl
  rw [Tryd.cellsSt20] at f2
  obtain ⟨m, k0, z0⟩ := f0.str Tryd.underlying9
  obtain ⟨t, k1, z1⟩ := f1.str Tryd.underlying9
  obtain ⟨r, k2, z2⟩ := f2.str Tryd.underlying9
  match cs, hl with
  | [x0, x1, x2], _ =>
    simp at k0 k1 k2
    exact ⟨m, t, r, by rw [k0, k1, k2], z0, z1, z2⟩
theorem vparses_arg (v0 v1 : Value) (w : World) (h0 : Arg Tryd.prog w 9 v0) (h1 : Arg Tryd.prog w 33 v1) :
    Calls Tryd.prog 6 #[v0, v1] w fun e w' => e = .returned (.bool true) ∧ Below w.heap.size w w' := by
  obtain ⟨x, rfl, hx⟩ := h0.str Tryd.underlying9
  obtain ⟨a, b, c, rfl, ha, hb, hc⟩ := hop_arg v1 w h1
  exact vparses_walk x a b c w hx ha hb hc
end Go.Proofs.YtahehpgnemanmaaDoor
