/- By whom a message came (layer 20): who is among the hops, a hop more; both sides; the law ViaLoops. -/
import Derived.Test.YtkfpioadimkogaaGreatDoorVah
import Derived.Test.YtkfpioadimkogaaGreatDoorCna
import Derived.Test.YtkfpioadimkogaaGreatDoorHdi
namespace Go.Proofs.YtkfpioadimkogaaGreatDoor
open Go.RowKit
set_option linter.unusedVariables false
set_option linter.unusedSimpArgs false

theorem vaR_by {x : ByteArray} (h : x.size ≤ 900000) : (vaR x).2.1.size ≤ 900000 := by
  unfold vaR
  split
  · show (byB (vaL x)).size ≤ 900000
    rw [byB_size, vaL_eq]
    have := preN_le vaNB (fromB x (preN vaNB x + vaGap x))
    rw [fromB_size] at this
    omega
  · exact Nat.zero_le _
theorem hops_sm {L : List ByteArray} (h : ∀ x ∈ L, x.size ≤ 900000) : ∀ p ∈ hops L, p.2.1.size ≤ 900000 := fun p hp => by
  unfold hops hopL at hp
  obtain ⟨x, hx, rfl⟩ := List.mem_map.1 hp
  rw [List.take_length] at hx
  exact vaR_by (h x (List.mem_filter.1 hx).1)
theorem hops_len (L : List ByteArray) : (hops L).length ≤ L.length := hopL_len L _
theorem viaL_sm {l : List Fld} (hj : (viaS l).size ≤ 900000) : ∀ p ∈ viaL l, p.2.1.size ≤ 900000 := hops_sm fun x hx => by have := (splL_mem hx).2; omega
theorem viaL_len (l : List Fld) (hj : (viaS l).size ≤ 900000) : (viaL l).length ≤ 1000000 := by
  have h1 := hops_len (splL (viaS l))
  have h2 := splL_len (viaS l)
  unfold viaL
  omega
/-- P20.2: is somebody among them? -/
def lpB (nm : ByteArray) (l : List Hp) : Bool := l.any fun h => foldB h.2.1 nm
theorem lpB_take {nm : ByteArray} {l : List Hp} {k : Nat} (h : k < l.length) : lpB nm (l.take (k + 1)) = (lpB nm (l.take k) || foldB l[k].2.1 nm) := by
  unfold lpB
  rw [List.take_succ_eq_append_getElem h, List.any_append]
  simp
theorem lpB_hit {nm : ByteArray} {l : List Hp} {k : Nat} (h : k < l.length) (hf : foldB l[k].2.1 nm = true) : lpB nm l = true := List.any_eq_true.2 ⟨_, List.getElem_mem h, hf⟩
theorem lp1_any (V B C nm : ByteArray) (bx : Nat) (w : World) (hc : w.cell? ⟨bx, 0, none⟩ = some (.string nm)) (hbx : bx < w.heap.size) (hn : nm.size ≤ 1000000) (hx : B.size ≤ 1000000) :
    Calls Tryz.prog 42 #[.agg #[.string V, .string B, .string C], .pointer (some ⟨bx, 0, none⟩)] w fun e w' => e = .returned (.bool (foldB B nm)) ∧ Below w.heap.size w w' := by
  have hc2 : (w.alloc (.cells #[.string V, .string B, .string C] 51)).cell? ⟨bx, 0, none⟩ = some (.string nm) := (((Below.refl w.heap.size w).alloc (Nat.le_refl _) _).cell (p := ⟨bx, 0, none⟩) hbx).trans hc
  go_enter Tryz.func42, Tryz.ntmps42
  go_wp2_with fail
  refine (oct_fold_any _ _ _ (by omega) (by omega)).mono ?_
  rintro e w1 ⟨rfl, hb⟩
  go_wp2_with fail
  go_ret
  exact ⟨rfl, ((Below.refl w.heap.size w).alloc (Nat.le_refl _) (.cells #[.string V, .string B, .string C] 51)).trans (hb.mono (by simp))⟩
def IdhPost (l : List Hp) (nm : ByteArray) (w : World) (e : Ending) (w' : World) : Prop := ∃ r : Int, e = .returned (.int .i64 r) ∧ decide (0 ≤ r) = lpB nm l ∧ Below w.heap.size w w'
set_option maxRecDepth 100000 in
set_option maxHeartbeats 2000000 in
theorem ixh_any (v : Value) (l : List Hp) (nm : ByteArray) (bx : Nat) (w : World) (hv : RdP w v l) (hc : w.cell? ⟨bx, 0, none⟩ = some (.string nm)) (hbx : bx < w.heap.size) (hz : ∀ p ∈ l, p.2.1.size ≤ 900000) (hn : nm.size ≤ 1000000) (hl : l.length ≤ 1000000) :
    Calls Tryz.prog 87 #[v, .func (.func 42) #[] #[.pointer (some ⟨bx, 0, none⟩)]] w (IdhPost l nm w) := by
  have HV := Kp.mk hv
  have HZ := Kp.mk hz
  have HC := Kp.mk hc
  obtain ⟨a, cap, rfl, hc1, hc2, -⟩ := hv
  clear hz hc hc2
  go_enter Tryz.func87, Tryz.ntmps87
  go_wp2_with fail
  go_loopw [8] (fun i wr => ∃ k : Nat, k ≤ l.length ∧ i = .int .i64 k ∧ lpB nm (l.take k) = false ∧ Below w.heap.size w wr) (fun i _ => l.length - (intOf i).toNat)
  case atStart => exact ⟨0, by omega, rfl, rfl, Below.refl _ _⟩
  case round =>
    obtain ⟨k, hk, rfl, hh, hb⟩ := hrel
    have HB := Kp.mk hb
    have HH := Kp.mk hh
    have HCK := Kp.mk ((hb.cell (p := ⟨bx, 0, none⟩) hbx).trans HC.out)
    have hsz := hb.size
    clear hh hb
    by_cases hlt : k < l.length
    · obtain ⟨g, o, rfl, hgl, d0⟩ := rdp_cells (HV.out.below HB.out) (by omega)
      obtain ⟨c1, c2, c3⟩ := d0 k hlt
      have m1 := HZ.out l[k] (List.getElem_mem hlt)
      have q0 : (0 : Int) ≤ (k : Int) := by omega
      have q1 : (k : Int) < (l.length : Int) := by omega
      have HT := Kp.mk (lpB_take (nm := nm) hlt)
      have HHit := Kp.mk (fun h => lpB_hit (nm := nm) hlt h)
      clear d0
      generalize l[k].1 = x1 at *
      generalize l[k].2.1 = x2 at *
      generalize l[k].2.2 = x3 at *
      go_wp2_with fail
      refine (lp1_any x1 x2 x3 nm bx _ HCK.out (by omega) hn (by omega)).mono ?_
      rintro e w2 ⟨rfl, hb2⟩
      have HB2 := Kp.mk (HB.out.trans (hb2.mono hsz))
      clear hb2
      cases hf : foldB x2 nm
      · have HT2 := Kp.mk (show lpB nm (l.take (k + 1)) = false by rw [HT.out, hf, HH.out]; rfl)
        go_wp2_with fail
        go_roundw
        case rel => exact ⟨k + 1, by omega, by go_num, HT2.out, HB2.out⟩
        case measure => simp [intOf]; omega
      · have HT2 := Kp.mk (HHit.out hf)
        go_wp2_with fail
        go_ret
        exact ⟨_, rfl, by rw [HT2.out]; exact decide_eq_true (by omega), HB2.out⟩
    · have HK := Kp.mk (show lpB nm l = false by have := HH.out; rwa [List.take_of_length_le (by omega)] at this)
      go_wp2_with fail
      go_ret
      exact ⟨-1, rfl, by rw [HK.out]; rfl, HB.out⟩
theorem coh_any (v : Value) (l : List Hp) (nm : ByteArray) (bx : Nat) (w : World) (hv : RdP w v l) (hc : w.cell? ⟨bx, 0, none⟩ = some (.string nm)) (hbx : bx < w.heap.size) (hz : ∀ p ∈ l, p.2.1.size ≤ 900000) (hn : nm.size ≤ 1000000) (hl : l.length ≤ 1000000) :
    Calls Tryz.prog 41 #[v, .func (.func 42) #[] #[.pointer (some ⟨bx, 0, none⟩)]] w fun e w' => e = .returned (.bool (lpB nm l)) ∧ Below w.heap.size w w' := by
  have HC := Kp.mk hc
  have HV := Kp.mk hv
  have HZ := Kp.mk hz
  clear hc hv hz
  go_enter Tryz.func41, Tryz.ntmps41
  go_wp2_with fail
  refine (ixh_any v l nm bx _ HV.out HC.out hbx HZ.out hn hl).mono ?_
  rintro e w1 ⟨r, rfl, hr, hb⟩
  have HR := Kp.mk hr
  clear hr
  go_wp2_with fail
  go_ret
  exact ⟨by rw [← HR.out]; rfl, hb⟩
set_option maxRecDepth 100000 in
set_option maxHeartbeats 2000000 in
theorem va_loops_any (v : Value) (l : List Fld) (nm : ByteArray) (w : World) (hv : RdF w v l) (hz : ∀ p ∈ l, FldSm p) (hl : l.length ≤ 100000) (hj : (viaS l).size ≤ 900000) (hn : nm.size ≤ 1000000) :
    Calls Tryz.prog 13 #[v, .string nm] w fun e w' => e = .returned (.bool (lpB nm (viaL l))) ∧ Below w.heap.size w w' := by
  have HA := Kp.mk (fun w hv => va_all_any v l w hv hz hl hj)
  unfold RetHs at HA
  have HZ := Kp.mk (viaL_sm hj)
  have hln := viaL_len l hj
  have HV := Kp.mk hv
  have B0 := Kp.mk (Bl.new w 9 #[.string nm])
  have E0 := Kp.mk (vab1 w (.cells #[.string nm] 9))
  obtain ⟨ad, cap, rfl, -, -, -⟩ := hv
  generalize viaL l = M at *
  go_enter Tryz.func13, Tryz.ntmps13
  go_wp2_with fail
  refine (HA.out _ (HV.out.below E0.out)).mono ?_
  rintro e w1 ⟨u, rfl, ho, hb⟩
  have B1 := Kp.mk (B0.out.below hb)
  have E1 := Kp.mk (E0.out.trans (hb.mono E0.out.size))
  have RA := Kp.mk (rdp_own ho)
  obtain ⟨a2, c2, rfl⟩ := own_lenH ho
  clear ho hb
  go_wp2_with fail
  refine (coh_any _ M nm w.heap.size _ RA.out (B1.out.cell 0) B1.out.lt HZ.out hn hln).mono ?_
  rintro e w2 ⟨rfl, hb⟩
  have E2 := Kp.mk (E1.out.trans (hb.mono E1.out.size))
  clear hb
  go_wp2_with fail
  go_ret
  exact ⟨rfl, E2.out⟩
/-! ### The document's -/
set_option maxRecDepth 100000 in
set_option maxHeartbeats 4000000 in
theorem rva_all_any (v : Value) (l : List Fld) (w : World) (hv : RdF w v l) (hz : ∀ p ∈ l, FldSm p) (hl : l.length ≤ 100000) (hj : (viaS l).size ≤ 900000) :
    Calls Tryz.prog 12 #[v] w (RetHs (viaL l) w) := by
  have HC := Kp.mk (fun w hv => rhcomb_any v l nmVia w hv hz hl (by decide))
  have HX := Kp.mk (show viaL l = hopL (splL (viaS l)) (splL (viaS l)).length from rfl)
  have HS := Kp.mk (show viaS l = hJoin (hAll l nmVia) from rfl)
  have HZ := Kp.mk (fun x (h : x ∈ splL (viaS l)) => show x.size ≤ 900000 by have := (splL_mem h).2; omega)
  have hln := splL_len (viaS l)
  rw [← HS.out] at HC
  have HV := Kp.mk hv
  obtain ⟨ad, cap, rfl, -, -, -⟩ := hv
  have HSP := Kp.mk (fun w => rsplit_any (viaS l) w (by omega))
  unfold RetSp at HSP
  generalize splB (viaS l) = sb at *
  generalize splL (viaS l) = L at *
  generalize viaS l = s at *
  go_enter Tryz.func12, Tryz.ntmps12
  go_wp2_with fail
  refine (HC.out _ HV.out).mono ?_
  rintro e w1 ⟨rfl, hb⟩
  have HB1 := Kp.mk hb
  clear hb
  go_wp2_with fail
  refine (HSP.out _).mono ?_
  rintro e w2 ⟨u, rfl, ho, hb⟩
  have HB2 := Kp.mk (HB1.out.trans (hb.mono HB1.out.size))
  have HR := Kp.mk (rds_own ho)
  obtain ⟨a2, c2, rfl⟩ := own_lenH ho
  clear ho hb
  have HO0 := Kp.mk (World.ownsRow_lit (base := w2.heap.size) (e := 51) (size := 3) w2 #[] 0 (Nat.le_refl _) (by unfold maxLen; omega) rfl)
  have HB0 := Kp.mk ((Below.refl w2.heap.size w2).alloc (Nat.le_refl _) (.cells #[] 51))
  go_wp2_with fail
  go_loopw [7, 8] (fun ov i wr => ∃ k : Nat, k ≤ L.length ∧ i = .int .i64 k ∧ wr.ownsRow w2.heap.size 51 3 ov (hopL L k).length (hvH (hopL L k)) ∧ Below w2.heap.size w2 wr) (fun _ i _ => L.length - (intOf i).toNat)
  case atStart => exact ⟨0, by omega, rfl, HO0.out, HB0.out⟩
  case round =>
    obtain ⟨k, hk, rfl, hown, hb⟩ := hrel
    obtain ⟨av, cv, rfl⟩ := own_lenH hown
    have HOW := Kp.mk hown
    have HB := Kp.mk hb
    have HBW := Kp.mk (HB2.out.trans (hb.mono HB2.out.size))
    have hle := hopL_len L k
    clear hown hb
    by_cases hlt : k < L.length
    · obtain ⟨g, o, rfl, hgl, d0⟩ := rds_cells (HR.out.below HB.out) (by omega)
      have c1 := d0 k hlt
      have m1 := HZ.out L[k] (List.getElem_mem hlt)
      have q0 : (0 : Int) ≤ (k : Int) := by omega
      have q1 : (k : Int) < (L.length : Int) := by omega
      have HYES := Kp.mk (fun h => hopL_yes (L := L) hlt h)
      have HNO := Kp.mk (fun h => hopL_no (L := L) hlt h)
      clear d0
      generalize L[k] = x at *
      have HP := Kp.mk (fun W => rva_parse_any x W m1)
      unfold RetHp at HP
      generalize hR : vaR x = R at *
      obtain ⟨V, B, C⟩ := R
      unfold vaH at HP
      dsimp only at HP
      have HRX := Kp.mk hR
      clear hR
      generalize hopL L k = P at *
      have hlen : (P.length + 1) * 48 ≤ 140737488355328 := by omega
      have hmx : P.length + 1 ≤ maxLen := by unfold maxLen; omega
      go_wp2_with fail
      refine (HP.out _).mono ?_
      rintro e w4 ⟨rfl, hb4⟩
      have HB4 := Kp.mk (HB.out.trans (hb4.mono HB.out.size))
      have HO4 := Kp.mk ((own_bel HOW.out hb4).alloc (.cells #[.string V, .string B, .string C] 51))
      have hsz4 : w2.heap.size ≤ w4.heap.size := HB4.out.size
      have hszX : w2.heap.size ≤ (w4.alloc (.cells #[.string V, .string B, .string C] 51)).heap.size := by simp; omega
      have HBX := Kp.mk (HB4.out.alloc hsz4 (.cells #[.string V, .string B, .string C] 51))
      clear hb4 c1
      by_cases hE : vaE x = 0
      · have HY := Kp.mk (HYES.out hE)
        rw [hE]
        clear hE
        go_wp2_with (at_builtin; refine app_any rfl _ _ _ _ rfl Tryz.underlying26 _ _ _ Tryz.infoHop rfl (by omega) w2.heap.size _ _ _ rfl HO4.out #[.string V, .string B, .string C] rfl (fun u hu => by simp at hu; rcases hu with rfl | rfl | rfl <;> rfl) (w4.heap.size + 1) (by simp) rfl hlen hmx hszX ?_; intro g9 cap9 w9 h1 h2 h3; have G3 := Kp.mk h1; have G4 := Kp.mk (grown_bel HO4.out hszX h2); clear h1 h2 h3)
        go_roundw
        case rel =>
          refine ⟨k + 1, by omega, by go_num, ?_, HBX.out.trans G4.out⟩
          rw [HY.out, List.length_append, hvH_snoc]
          exact G3.out
        case measure => simp [intOf]; omega
      · have HY := Kp.mk (HNO.out hE)
        have hE2 : (vaE x == 0) = false := beq_eq_false_iff_ne.2 hE
        generalize vaE x = E at *
        clear hE
        go_wp2_with fail
        go_roundw
        case rel =>
          refine ⟨k + 1, by omega, by go_num, ?_, HBX.out⟩
          rw [HY.out]
          exact HO4.out
        case measure => simp [intOf]; omega
    · obtain rfl : k = L.length := by omega
      go_wp2_with fail
      go_ret
      exact ⟨_, rfl, by rw [HX.out]; exact own_low HOW.out HB2.out.size, HBW.out⟩
set_option maxRecDepth 100000 in
set_option maxHeartbeats 4000000 in
theorem rva_loops_any (v : Value) (l : List Fld) (nm : ByteArray) (w : World) (hv : RdF w v l) (hz : ∀ p ∈ l, FldSm p) (hl : l.length ≤ 100000) (hj : (viaS l).size ≤ 900000) (hn : nm.size ≤ 1000000) :
    Calls Tryz.prog 14 #[v, .string nm] w fun e w' => e = .returned (.bool (lpB nm (viaL l))) ∧ Below w.heap.size w w' := by
  have HA := Kp.mk (fun w hv => rva_all_any v l w hv hz hl hj)
  unfold RetHs at HA
  have HZ := Kp.mk (viaL_sm hj)
  have hln := viaL_len l hj
  have HV := Kp.mk hv
  have HLO := Kp.mk (fun x w (h : x.size ≤ 1000000) => ref_lower_any x w (by omega))
  obtain ⟨ad, cap, rfl, -, -, -⟩ := hv
  generalize viaL l = M at *
  go_enter Tryz.func14, Tryz.ntmps14
  go_wp2_with fail
  refine (HA.out _ HV.out).mono ?_
  rintro e w1 ⟨u, rfl, ho, hb⟩
  have HB1 := Kp.mk hb
  have RA := Kp.mk (rdp_own ho)
  obtain ⟨a2, c2, rfl⟩ := own_lenH ho
  clear ho hb
  go_wp2_with fail
  go_loopw [6, 7] (fun b i wr => ∃ k : Nat, k ≤ M.length ∧ i = .int .i64 k ∧ b = .bool (lpB nm (M.take k)) ∧ Below w1.heap.size w1 wr) (fun _ i _ => M.length - (intOf i).toNat)
  case atStart => exact ⟨0, by omega, rfl, rfl, Below.refl _ _⟩
  case round =>
    obtain ⟨k, hk, rfl, rfl, hb⟩ := hrel
    have HB := Kp.mk hb
    have HBW := Kp.mk (HB1.out.trans (hb.mono HB1.out.size))
    clear hb
    by_cases hlt : k < M.length
    · obtain ⟨g, o, rfl, hgl, d0⟩ := rdp_cells (RA.out.below HB.out) (by omega)
      obtain ⟨c1, c2, c3⟩ := d0 k hlt
      have m1 := HZ.out M[k] (List.getElem_mem hlt)
      have q0 : (0 : Int) ≤ (k : Int) := by omega
      have q1 : (k : Int) < (M.length : Int) := by omega
      have HT := Kp.mk (lpB_take (nm := nm) hlt)
      clear d0
      generalize M[k].2.1 = x2 at *
      cases ht : lpB nm (M.take k)
      · rw [ht] at HT
        have HT2 := Kp.mk (show lpB nm (M.take (k + 1)) = ((lowB x2).toList == (lowB nm).toList) from HT.out)
        have L1 := Kp.mk (fun w => HLO.out x2 w (by omega))
        have L2 := Kp.mk (fun w => HLO.out nm w hn)
        clear ht HT
        generalize lowB x2 = y1 at *
        generalize lowB nm = y2 at *
        go_wp2_with fail
        refine (L1.out _).mono ?_
        rintro e w2 ⟨rfl, hb2⟩
        have HB2 := Kp.mk (HB.out.trans (hb2.mono HB.out.size))
        clear hb2
        go_wp2_with fail
        refine (L2.out _).mono ?_
        rintro e w3 ⟨rfl, hb2⟩
        have HB3 := Kp.mk (HB2.out.trans (hb2.mono HB2.out.size))
        clear hb2
        go_wp2_with fail
        go_roundw
        case rel => exact ⟨k + 1, by omega, by go_num, by rw [HT2.out], HB3.out⟩
        case measure => simp [intOf]; omega
      · rw [ht] at HT
        have HT2 := Kp.mk (show lpB nm (M.take (k + 1)) = true from HT.out)
        clear ht HT
        go_wp2_with fail
        go_roundw
        case rel => exact ⟨k + 1, by omega, by go_num, by rw [HT2.out], HB.out⟩
        case measure => simp [intOf]; omega
    · obtain rfl : k = M.length := by omega
      have HK := Kp.mk (show lpB nm (M.take M.length) = lpB nm M by rw [List.take_length])
      go_wp2_with fail
      go_ret
      exact ⟨by rw [← HK.out] <;> rfl, HBW.out⟩
/-! ### A hop more -/
def apV (minor : Int) (nm : ByteArray) : ByteArray := (if 0 < minor then ⟨#[49, 46, 49, 32]⟩ else ⟨#[49, 46, 48, 32]⟩) ++ nm
def apL (l : List Fld) (minor : Int) (nm : ByteArray) : List Fld := l ++ [(nmVia, apV minor nm)]
theorem vaTx_v1 (nm : ByteArray) : vaTx ⟨#[49, 46, 49]⟩ nm ⟨#[]⟩ = ⟨#[49, 46, 49, 32]⟩ ++ nm := ba_ext (by
  rw [show vaTx ⟨#[49, 46, 49]⟩ nm ⟨#[]⟩ = ⟨#[49, 46, 49]⟩ ++ ⟨#[32]⟩ ++ nm from if_pos rfl, cat_app, cat_app, cat_app]; rfl)
theorem vaTx_v0 (nm : ByteArray) : vaTx ⟨#[49, 46, 48]⟩ nm ⟨#[]⟩ = ⟨#[49, 46, 48, 32]⟩ ++ nm := ba_ext (by
  rw [show vaTx ⟨#[49, 46, 48]⟩ nm ⟨#[]⟩ = ⟨#[49, 46, 48]⟩ ++ ⟨#[32]⟩ ++ nm from if_pos rfl, cat_app, cat_app, cat_app]; rfl)
set_option maxRecDepth 100000 in
set_option maxHeartbeats 2000000 in
theorem va_append_any (v : Value) (l : List Fld) (minor : Int) (nm : ByteArray) (w : World) (hv : RdF w v l) (hl : l.length ≤ 100000) (hn : nm.size ≤ 1000000) :
    Calls Tryz.prog 16 #[v, .int .i64 minor, .string nm] w (RetF (apL l minor nm) w) := by
  have HW := Kp.mk (fun w hv => hwith_any v l nmVia (apV minor nm) w hv hl)
  have HX := Kp.mk (show apL l minor nm = l ++ [(nmVia, apV minor nm)] from rfl)
  unfold RetF at HW
  rw [← HX.out] at HW
  have HV := Kp.mk hv
  obtain ⟨ad, cap, rfl, -, -, -⟩ := hv
  by_cases h : 0 < minor
  · have HT := Kp.mk (fun w => va_text_any ⟨#[49, 46, 49]⟩ nm ⟨#[]⟩ w (by decide) hn (by decide))
    rw [vaTx_v1, show (⟨#[49, 46, 49, 32]⟩ : ByteArray) ++ nm = apV minor nm by unfold apV; rw [if_pos h]] at HT
    have h2 : ¬ minor ≤ 0 := by omega
    generalize apV minor nm = y at *
    generalize apL l minor nm = M at *
    go_enter Tryz.func16, Tryz.ntmps16
    go_wp2_with fail
    refine (HT.out _).mono ?_
    rintro e w1 ⟨rfl, hb⟩
    have HB1 := Kp.mk hb
    clear hb
    go_wp2_with fail
    refine (HW.out _ (HV.out.below HB1.out)).mono ?_
    rintro e w2 ⟨u, rfl, ho, hb⟩
    have HB2 := Kp.mk (HB1.out.trans (hb.mono HB1.out.size))
    have HO := Kp.mk (own_low ho HB1.out.size)
    clear ho hb
    go_wp2_with fail
    go_ret
    exact ⟨_, rfl, HO.out, HB2.out⟩
  · have HT := Kp.mk (fun w => va_text_any ⟨#[49, 46, 48]⟩ nm ⟨#[]⟩ w (by decide) hn (by decide))
    rw [vaTx_v0, show (⟨#[49, 46, 48, 32]⟩ : ByteArray) ++ nm = apV minor nm by unfold apV; rw [if_neg h]] at HT
    have h2 : minor ≤ 0 := by omega
    generalize apV minor nm = y at *
    generalize apL l minor nm = M at *
    go_enter Tryz.func16, Tryz.ntmps16
    go_wp2_with fail
    refine (HT.out _).mono ?_
    rintro e w1 ⟨rfl, hb⟩
    have HB1 := Kp.mk hb
    clear hb
    go_wp2_with fail
    refine (HW.out _ (HV.out.below HB1.out)).mono ?_
    rintro e w2 ⟨u, rfl, ho, hb⟩
    have HB2 := Kp.mk (HB1.out.trans (hb.mono HB1.out.size))
    have HO := Kp.mk (own_low ho HB1.out.size)
    clear ho hb
    go_wp2_with fail
    go_ret
    exact ⟨_, rfl, HO.out, HB2.out⟩
set_option maxRecDepth 100000 in
set_option maxHeartbeats 2000000 in
theorem rva_append_any (v : Value) (l : List Fld) (minor : Int) (nm : ByteArray) (w : World) (hv : RdF w v l) (hl : l.length ≤ 100000) (hn : nm.size ≤ 1000000) :
    Calls Tryz.prog 17 #[v, .int .i64 minor, .string nm] w (RetF (apL l minor nm) w) := by
  have HW := Kp.mk (fun w hv => rhwith_any v l nmVia (apV minor nm) w hv hl)
  have HX := Kp.mk (show apL l minor nm = l ++ [(nmVia, apV minor nm)] from rfl)
  unfold RetF at HW
  rw [← HX.out] at HW
  have HV := Kp.mk hv
  obtain ⟨ad, cap, rfl, -, -, -⟩ := hv
  by_cases h : 0 < minor
  · have HE := Kp.mk (show (⟨#[49, 46, 49, 32]⟩ : ByteArray) ++ nm = apV minor nm by unfold apV; rw [if_pos h])
    generalize apV minor nm = y at *
    generalize apL l minor nm = M at *
    go_enter Tryz.func17, Tryz.ntmps17
    go_wp2_with fail
    rw [HE.out]
    refine (HW.out _ HV.out).mono ?_
    rintro e w2 ⟨u, rfl, ho, hb⟩
    have HB2 := Kp.mk hb
    have HO := Kp.mk ho
    clear ho hb
    go_wp2_with fail
    go_ret
    exact ⟨_, rfl, HO.out, HB2.out⟩
  · have HE := Kp.mk (show (⟨#[49, 46, 48, 32]⟩ : ByteArray) ++ nm = apV minor nm by unfold apV; rw [if_neg h])
    generalize apV minor nm = y at *
    generalize apL l minor nm = M at *
    go_enter Tryz.func17, Tryz.ntmps17
    go_wp2_with fail
    rw [HE.out]
    refine (HW.out _ HV.out).mono ?_
    rintro e w2 ⟨u, rfl, ho, hb⟩
    have HB2 := Kp.mk hb
    have HO := Kp.mk ho
    clear ho hb
    go_wp2_with fail
    go_ret
    exact ⟨_, rfl, HO.out, HB2.out⟩
/-! ### The law ViaLoops -/
theorem sameL_va {α : Type} [DecidableEq α] (l : List α) : sameL l l = true := decide_eq_true rfl
set_option maxRecDepth 100000 in
set_option maxHeartbeats 4000000 in
theorem vloops_walk (v : Value) (l : List Fld) (minor : Int) (nm : ByteArray) (w : World) (hv : RdF w v l) (hz : ∀ p ∈ l, FldOk p) (hn : nm.size ≤ maxLen) :
    Calls Tryz.prog 3 #[v, .int .i64 minor, .string nm] w fun e w' => e = .returned (.bool true) ∧ Below w.heap.size w w' := by
  unfold maxLen at hn
  have HV := Kp.mk hv
  have HF1 := Kp.mk (few10_any v l w hv hz)
  clear hz
  obtain ⟨ad, cap, rfl, -, -, -⟩ := hv
  cases hfl : hFew l
  · rw [hfl] at HF1
    go_enter Tryz.func3, Tryz.ntmps3
    go_wp2_with fail
    refine HF1.out.mono ?_
    rintro e w1 ⟨rfl, hb⟩
    have HB1 := Kp.mk hb
    clear hb
    go_wp2_with fail
    refine (lives20_any _).mono ?_
    rintro e w9 ⟨rfl, hb9⟩
    have HB9 := Kp.mk (HB1.out.trans (hb9.mono HB1.out.size))
    clear hb9
    go_wp2_with fail
    go_ret
    exact ⟨rfl, HB9.out⟩
  · rw [hfl] at HF1
    have FW := fewF_of hfl
    have HSM := Kp.mk FW.sm
    have hl : l.length ≤ 100000 := by have := FW.len; omega
    have hl50 := FW.len
    have hj : (viaS l).size ≤ 900000 := by have := FW.comb nmVia; unfold viaS; omega
    clear hfl FW
    by_cases g1 : nm.size ≤ 100
    · have q1 : ¬ (100 : Int) < (nm.size : Int) := by omega
      have A1 := Kp.mk (fun w hv => va_all_any (.slice ad l.length cap) l w hv HSM.out hl hj)
      have A2 := Kp.mk (fun w hv => rva_all_any (.slice ad l.length cap) l w hv HSM.out hl hj)
      have L1 := Kp.mk (fun w hv => va_loops_any (.slice ad l.length cap) l nm w hv HSM.out hl hj (by omega))
      have L2 := Kp.mk (fun w hv => rva_loops_any (.slice ad l.length cap) l nm w hv HSM.out hl hj (by omega))
      have P1 := Kp.mk (fun w hv => va_append_any (.slice ad l.length cap) l minor nm w hv hl (by omega))
      have P2 := Kp.mk (fun w hv => rva_append_any (.slice ad l.length cap) l minor nm w hv hl (by omega))
      have hvl := viaL_len l hj
      have hal : (apL l minor nm).length ≤ 1000000 := by unfold apL; rw [List.length_append]; simp; omega
      unfold RetHs at A1 A2
      unfold RetF at P1 P2
      generalize lpB nm (viaL l) = lb at *
      generalize viaL l = M at *
      generalize apL l minor nm = F at *
      have h8 : (lb == lb) = true := by cases lb <;> rfl
      go_enter Tryz.func3, Tryz.ntmps3
      go_wp2_with fail
      refine HF1.out.mono ?_
      rintro e w1 ⟨rfl, hb⟩
      have HB1 := Kp.mk hb
      clear hb
      go_wp2_with fail
      refine (A1.out _ (HV.out.below HB1.out)).mono ?_
      rintro e w2 ⟨u1, rfl, ho, hb⟩
      have HB2 := Kp.mk (HB1.out.trans (hb.mono HB1.out.size))
      have RA := Kp.mk (rdp_own ho)
      obtain ⟨a1, k1, rfl⟩ := own_lenH ho
      clear ho hb
      go_wp2_with fail
      refine (A2.out _ (HV.out.below HB2.out)).mono ?_
      rintro e w3 ⟨u2, rfl, ho, hb⟩
      have HB3 := Kp.mk (HB2.out.trans (hb.mono HB2.out.size))
      have RA3 := Kp.mk (RA.out.below hb)
      have RB := Kp.mk (rdp_own ho)
      obtain ⟨a2, k2, rfl⟩ := own_lenH ho
      clear ho hb
      go_wp2_with fail
      refine (same20_any _ _ M _ RA3.out RB.out hvl).mono ?_
      rintro e w4 ⟨rfl, hb⟩
      have HB4 := Kp.mk (HB3.out.trans (hb.mono HB3.out.size))
      clear hb
      go_wp2_with fail
      refine (L1.out _ (HV.out.below HB4.out)).mono ?_
      rintro e w5 ⟨rfl, hb⟩
      have HB5 := Kp.mk (HB4.out.trans (hb.mono HB4.out.size))
      clear hb
      go_wp2_with fail
      refine (L2.out _ (HV.out.below HB5.out)).mono ?_
      rintro e w6 ⟨rfl, hb⟩
      have HB6 := Kp.mk (HB5.out.trans (hb.mono HB5.out.size))
      clear hb
      go_wp2_with fail
      refine (P1.out _ (HV.out.below HB6.out)).mono ?_
      rintro e w7 ⟨u3, rfl, ho, hb⟩
      have HB7 := Kp.mk (HB6.out.trans (hb.mono HB6.out.size))
      have RC := Kp.mk (rdf_own ho)
      obtain ⟨a3, k3, rfl⟩ := own_lenH ho
      clear ho hb
      go_wp2_with fail
      refine (P2.out _ (HV.out.below HB7.out)).mono ?_
      rintro e w8 ⟨u4, rfl, ho, hb⟩
      have HB8 := Kp.mk (HB7.out.trans (hb.mono HB7.out.size))
      have RC8 := Kp.mk (RC.out.below hb)
      have RD := Kp.mk (rdf_own ho)
      obtain ⟨a4, k4, rfl⟩ := own_lenH ho
      clear ho hb
      go_wp2_with fail
      refine (rfsame_any _ _ F F _ RC8.out RD.out hal hal).mono ?_
      rw [sameL_va]
      rintro e w9 ⟨rfl, hb⟩
      have HB9 := Kp.mk (HB8.out.trans (hb.mono HB8.out.size))
      clear hb
      go_wp2_with fail
      refine (lives20_any _).mono ?_
      rintro e w10 ⟨rfl, hb⟩
      have HB10 := Kp.mk (HB9.out.trans (hb.mono HB9.out.size))
      clear hb
      go_wp2_with fail
      go_ret
      exact ⟨rfl, HB10.out⟩
    · have q1 : (100 : Int) < (nm.size : Int) := by omega
      go_enter Tryz.func3, Tryz.ntmps3
      go_wp2_with fail
      refine HF1.out.mono ?_
      rintro e w1 ⟨rfl, hb⟩
      have HB1 := Kp.mk hb
      clear hb
      go_wp2_with fail
      refine (lives20_any _).mono ?_
      rintro e w9 ⟨rfl, hb9⟩
      have HB9 := Kp.mk (HB1.out.trans (hb9.mono HB1.out.size))
      clear hb9
      go_wp2_with fail
      go_ret
      exact ⟨rfl, HB9.out⟩
set_option maxRecDepth 100000 in
theorem hlist_va (v : Value) (w : World) (h : Arg Tryz.prog w 22 v) : ∃ l, RdF w v l ∧ ∀ p ∈ l, FldOk p :=
  h.list (f := fldC) (Q := FldOk) Tryz.underlying22 Tryz.fcellsFld (by omega) fun E hE =>
    fld_of Tryz.underlying49 Tryz.underlying9 Tryz.fcellsFld Tryz.fcellsFs ⟨_, rfl, rfl, rfl⟩ ⟨_, rfl, rfl, rfl⟩ hE
theorem vloops_arg (v0 v1 v2 : Value) (w : World) (h0 : Arg Tryz.prog w 22 v0) (h1 : Arg Tryz.prog w 3 v1) (h2 : Arg Tryz.prog w 9 v2) :
    Calls Tryz.prog 3 #[v0, v1, v2] w fun e w' => e = .returned (.bool true) ∧ Below w.heap.size w w' := by
  obtain ⟨l, hv, hz⟩ := hlist_va v0 w h0
  obtain ⟨n, rfl, -⟩ := h1.int Tryz.underlying3
  obtain ⟨x, rfl, hx⟩ := h2.str Tryz.underlying9
  exact vloops_walk v0 l n x w hv hz hx
end Go.Proofs.YtkfpioadimkogaaGreatDoor
