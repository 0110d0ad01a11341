/- Connections (layer 17): the words, the document's; whether a word is one of them, whether the connection goes on, on both sides. -/
import Derived.Test.YthlkflneldjnjaaCnb
import Derived.Test.YthlkflneldjnjaaQs
import Derived.RegionTactic
import Derived.BigQuiet
namespace Go.Proofs.Ythlkflneldjnjaa
open Go.RowKit
set_option linter.unusedVariables false
set_option linter.unusedSimpArgs false

def lowP (L : List ByteArray) (k : Nat) : List ByteArray := (L.take k).map lowB
theorem lowP_step {L : List ByteArray} {k : Nat} (h : k < L.length) : lowP L (k + 1) = lowP L k ++ [lowB L[k]] := low_step h
theorem lowP_len (L : List ByteArray) (k : Nat) : (lowP L k).length ≤ k := by unfold lowP; rw [List.length_map, List.length_take]; omega
theorem lowP_all {L : List ByteArray} {k : Nat} (h : L.length ≤ k) : lowP L k = L.map lowB := by unfold lowP; rw [List.take_of_length_le h]
set_option maxRecDepth 100000 in
set_option maxHeartbeats 2000000 in
theorem rwords_any (vl : Value) (l : List Fld) (w : World) (hv : RdF w vl l) (hF : FewF l) : Calls Try.prog 16 #[vl] w (RetC (conV l) w) := by
  have hcz := hF.comb nmCon
  have hln := splL_len (conV l)
  have HZ := Kp.mk (fun x (h : x ∈ splL (conV l)) => show x.size ≤ 100000 by have h1 := (splL_mem h).2; have h2 : (conV l).size ≤ 50100 := hcz; omega)
  have HCV := Kp.mk (show hJoin (hAll l nmCon) = conV l from rfl)
  have hvz : (conV l).size ≤ 50100 := hcz
  have HBA := Kp.mk (fun h => con_bad (v := conV l) h)
  have HGO := Kp.mk (fun h1 h2 => con_good (v := conV l) h1 h2)
  have HV := Kp.mk hv
  have HS := Kp.mk hF.sm
  have hl5 := hF.len
  clear hcz hF hv
  go_enter Try.func16, Try.ntmps16
  go_wp2_with fail
  refine (rhcomb_any vl l nmCon _ HV.out HS.out (by omega) (by decide)).mono ?_
  rintro e w1 ⟨rfl, hb1⟩
  rw [HCV.out]
  have HB1 := Kp.mk hb1
  clear hb1
  generalize conV l = v at *
  generalize hIs l nmCon = hi at *
  go_wp2_with fail
  refine (rsplit_any v _ (by omega)).mono ?_
  rintro e w2 ⟨u, rfl, ho, hb2⟩
  have HB2 := Kp.mk (HB1.out.trans (hb2.mono HB1.out.size))
  have HR := Kp.mk (rds_own ho)
  obtain ⟨a, c, rfl⟩ := own_lenH ho
  clear ho hb2
  cases hsb : splB v
  · obtain ⟨e1, e2⟩ := HBA.out (.inl hsb)
    have E1 := Kp.mk e1
    have E2 := Kp.mk e2
    clear e1 e2
    go_wp2_with fail
    go_ret2
    exact ⟨.slice none 0 0, by rw [E1.out]; rfl, by rw [E2.out]; exact World.ownsRow_nil _ _ _ _, HB2.out⟩
  · have HGO2 := Kp.mk (HGO.out hsb)
    have HBA2 := Kp.mk (fun h => HBA.out (.inr h))
    generalize splL v = L at *
    have HO0 := Kp.mk (World.ownsRow_lit (base := w2.heap.size) (e := 9) (size := 1) w2 #[] 0 (Nat.le_refl _) (by unfold maxLen; omega) rfl)
    have HB0 := Kp.mk ((Below.refl w2.heap.size w2).alloc (Nat.le_refl _) (.cells #[] 9))
    go_wp2_with fail
    go_loopw [8, 9] (fun ov i wr => ∃ k : Nat, k ≤ L.length ∧ i = .int .i64 k ∧ okT L k ∧ wr.ownsRow w2.heap.size 9 1 ov (lowP L k).length (svH (lowP L k)) ∧ Below w2.heap.size w2 wr) (fun _ i _ => L.length - (intOf i).toNat)
    case atStart => exact ⟨0, by omega, rfl, fun j _ h => by omega, HO0.out, HB0.out⟩
    case round =>
      obtain ⟨k, hk, rfl, hok, hown, hb⟩ := hrel
      obtain ⟨av, cv, rfl⟩ := own_lenH hown
      have HOK := Kp.mk hok
      have HOW := Kp.mk hown
      have HB := Kp.mk hb
      have HBW := Kp.mk (HB2.out.trans (hb.mono HB2.out.size))
      have hle := lowP_len L k
      clear hok hown hb
      by_cases hlt : k < L.length
      · obtain ⟨g, o, rfl, hgl, d0⟩ := rds_cells (HR.out.below HB.out) (by omega)
        have c1 := d0 k hlt
        have m1 := HZ.out L[k] (List.getElem_mem hlt)
        have q0 : (0 : Int) ≤ (k : Int) := by omega
        have q1 : (k : Int) < (L.length : Int) := by omega
        have HST := Kp.mk (lowP_step hlt)
        have HHit := Kp.mk (tok_hit hlt)
        have HN := Kp.mk (fun (ht : tokenB L[k] = true) => show okT L (k + 1) from fun j hj h => by
          by_cases hjk : j = k
          · subst hjk; exact ht
          · exact HOK.out j hj (by omega))
        clear d0
        generalize L[k] = x at *
        cases ht : tokenB x
        · obtain ⟨e1, e2⟩ := HBA2.out (HHit.out ht)
          have E1 := Kp.mk e1
          have E2 := Kp.mk e2
          clear e1 e2
          go_wp2_with fail
          refine (ref_token_any x _ (by unfold maxLen; omega)).mono ?_
          rintro e w5 ⟨rfl, rfl⟩
          rw [ht]
          go_wp2_with fail
          go_ret2
          exact ⟨.slice none 0 0, by rw [E1.out]; rfl, by rw [E2.out]; exact World.ownsRow_nil _ _ _ _, HBW.out⟩
        · have HN2 := Kp.mk (HN.out ht)
          generalize hP : lowP L k = P at *
          have hlen : (P.length + 1) * 16 ≤ 140737488355328 := by omega
          have hmx : P.length + 1 ≤ maxLen := by unfold maxLen; omega
          go_wp2_with fail
          refine (ref_token_any x _ (by unfold maxLen; omega)).mono ?_
          rintro e w5 ⟨rfl, rfl⟩
          rw [ht]
          go_wp2_with fail
          refine (ref_lower_any x _ (by omega)).mono ?_
          rintro e w6 ⟨rfl, hb6⟩
          have HO6 := Kp.mk (own_bel HOW.out hb6)
          have HB6 := Kp.mk (HB.out.trans (hb6.mono HB.out.size))
          have hsz6 := HB6.out.size
          clear hb6 c1
          go_wp2_with (at_builtin; refine app_any rfl _ _ _ _ rfl Try.underlying25 _ _ _ Try.infoSH rfl (by omega) w2.heap.size _ _ _ rfl HO6.out #[.string (lowB x)] rfl (fun u hu => by simp at hu; subst hu; rfl) _ rfl rfl hlen hmx hsz6 ?_; intro g9 cap9 w9 h1 h2 h3; have G3 := Kp.mk h1; have G4 := Kp.mk (grown_bel HO6.out hsz6 h2); clear h1 h2 h3)
          go_roundw
          case rel =>
            refine ⟨k + 1, by omega, by go_num, HN2.out, ?_, HB6.out.trans G4.out⟩
            rw [HST.out, List.length_append, svH_snoc]
            exact G3.out
          case measure => simp [intOf]; omega
      · have HAT := Kp.mk (okT_all (by omega) HOK.out)
        obtain ⟨e1, e2⟩ := HGO2.out HAT.out
        have E1 := Kp.mk e1
        have E2 := Kp.mk e2
        have HK := Kp.mk (lowP_all (L := L) (k := k) (by omega))
        clear e1 e2
        go_wp2_with fail
        go_ret2
        refine ⟨.slice av (lowP L k).length cv, by rw [E1.out]; rfl, ?_, HBW.out⟩
        rw [E2.out, ← HK.out]
        exact own_low HOW.out HB2.out.size
set_option maxRecDepth 100000 in
set_option maxHeartbeats 1000000 in
theorem sidx_any (v : Value) (L : List ByteArray) (x : ByteArray) (w : World) (hv : RdS w v L) (hl : L.length ≤ 100000) :
    Calls Try.prog 98 #[v, .string x] w fun e w' => (∃ r : Int, e = .returned (.int .i64 r) ∧ decide (0 ≤ r) = inW x L) ∧ w = w' := by
  have HV := Kp.mk hv
  obtain ⟨a, cap, rfl, hc1, hc2, -⟩ := hv
  clear hc2
  go_enter Try.func98, Try.ntmps98
  go_wp2_with fail
  go_loopw [8] (fun i wr => ∃ k : Nat, k ≤ L.length ∧ i = .int .i64 k ∧ inW x (L.take k) = false ∧ wr = w) (fun i _ => L.length - (intOf i).toNat)
  case atStart => exact ⟨0, by omega, rfl, rfl, rfl⟩
  case round =>
    obtain ⟨k, hk, rfl, hh, rfl⟩ := hrel
    have HH := Kp.mk hh
    clear hh
    by_cases hlt : k < L.length
    · obtain ⟨g, o, rfl, hgl, d0⟩ := rds_cells HV.out (by omega)
      have c1 := d0 k hlt
      have q0 : (0 : Int) ≤ (k : Int) := by omega
      have q1 : (k : Int) < (L.length : Int) := by omega
      have HT := Kp.mk (inW_take (x := x) hlt)
      have HHit := Kp.mk (inW_hit (x := x) hlt)
      clear d0
      generalize L[k] = y at *
      have hsw := beq_swap x.toList y.toList
      cases hf : (y.toList == x.toList)
      · have HT2 := Kp.mk (show inW x (L.take (k + 1)) = false by rw [HT.out, hf, HH.out]; rfl)
        have hq := hsw.trans hf
        go_wp2_with fail
        go_roundw
        case rel => exact ⟨k + 1, by omega, by go_num, HT2.out, by first | rfl | trivial⟩
        case measure => simp [intOf]; omega
      · have HT2 := Kp.mk (HHit.out hf)
        have hq := hsw.trans hf
        go_wp2_with fail
        go_ret
        exact ⟨⟨_, rfl, by rw [HT2.out]; exact decide_eq_true (by omega)⟩, rfl⟩
    · have HK := Kp.mk (show inW x L = false by have := HH.out; rwa [List.take_of_length_le (by omega)] at this)
      go_wp2_with fail
      go_ret
      exact ⟨⟨-1, rfl, by rw [HK.out]; rfl⟩, rfl⟩
theorem cont_any (v : Value) (L : List ByteArray) (x : ByteArray) (w : World) (hv : RdS w v L) (hl : L.length ≤ 100000) :
    Calls Try.prog 62 #[v, .string x] w fun e w' => e = .returned (.bool (inW x L)) ∧ w = w' := by
  have HV := Kp.mk hv
  clear hv
  go_enter Try.func62, Try.ntmps62
  go_wp2_with fail
  refine (sidx_any v L x _ HV.out hl).mono ?_
  rintro e w1 ⟨⟨r, rfl, hr⟩, rfl⟩
  have HR := Kp.mk hr
  clear hr
  go_wp2_with fail
  go_ret
  exact ⟨by rw [← HR.out]; rfl, rfl⟩
theorem chas_any (vl : Value) (l : List Fld) (x : ByteArray) (w : World) (hv : RdF w vl l) (hF : FewF l) (hx : x.size ≤ 100000) :
    Calls Try.prog 18 #[vl, .string x] w fun e w' => e = .returned (.bool (inW (lowB x) (conW (conV l)))) ∧ Below w.heap.size w w' := by
  have hvz : (conV l).size ≤ 50100 := hF.comb nmCon
  have hwl := conW_len (conV l)
  have HF := Kp.mk hF
  have HV := Kp.mk hv
  clear hv hF
  go_enter Try.func18, Try.ntmps18
  go_wp2_with fail
  refine (words_any vl l _ HV.out HF.out).mono ?_
  rintro e w1 ⟨u, rfl, ho, hb1⟩
  have HB1 := Kp.mk hb1
  have HR := Kp.mk (rds_own ho)
  obtain ⟨a, c, rfl⟩ := own_lenH ho
  clear ho hb1
  generalize hLL : conW (conV l) = L at *
  have HLL := Kp.mk hLL
  clear hLL
  generalize conE (conV l) = er at *
  go_wp2_with fail
  refine (oct_lower_any x _ (by omega)).mono ?_
  rintro e w2 ⟨rfl, hb2⟩
  have HB2 := Kp.mk (HB1.out.trans (hb2.mono HB1.out.size))
  have HR2 := Kp.mk (HR.out.below hb2)
  clear hb2
  go_wp2_with fail
  refine (cont_any _ L (lowB x) _ HR2.out (by omega)).mono ?_
  rintro e w3 ⟨rfl, rfl⟩
  go_wp2_with fail
  go_ret
  exact ⟨by rw [HLL.out]; rfl, HB2.out⟩
set_option maxRecDepth 100000 in
set_option maxHeartbeats 1000000 in
theorem rchas_any (vl : Value) (l : List Fld) (x : ByteArray) (w : World) (hv : RdF w vl l) (hF : FewF l) (hx : x.size ≤ 100000) :
    Calls Try.prog 19 #[vl, .string x] w fun e w' => e = .returned (.bool (inW (lowB x) (conW (conV l)))) ∧ Below w.heap.size w w' := by
  have hvz : (conV l).size ≤ 50100 := hF.comb nmCon
  have hwl := conW_len (conV l)
  have HF := Kp.mk hF
  have HV := Kp.mk hv
  clear hv hF
  go_enter Try.func19, Try.ntmps19
  go_wp2_with fail
  refine (rwords_any vl l _ HV.out HF.out).mono ?_
  rintro e w1 ⟨u, rfl, ho, hb1⟩
  have HB1 := Kp.mk hb1
  have HR := Kp.mk (rds_own ho)
  obtain ⟨a, c, rfl⟩ := own_lenH ho
  clear ho hb1
  generalize hLL : conW (conV l) = L at *
  have HLL := Kp.mk hLL
  clear hLL
  generalize conE (conV l) = er at *
  go_wp2_with fail
  go_loopw [7] (fun i wr => ∃ k : Nat, k ≤ L.length ∧ i = .int .i64 k ∧ inW (lowB x) (L.take k) = false ∧ Below w1.heap.size w1 wr) (fun i _ => L.length - (intOf i).toNat)
  case atStart => exact ⟨0, by omega, rfl, rfl, Below.refl _ _⟩
  case round =>
    obtain ⟨k, hk, rfl, hh, hb⟩ := hrel
    have HB := Kp.mk hb
    have HH := Kp.mk hh
    have HBW := Kp.mk (HB1.out.trans (hb.mono HB1.out.size))
    clear hh hb
    by_cases hlt : k < L.length
    · obtain ⟨g, o, rfl, hgl, d0⟩ := rds_cells (HR.out.below HB.out) (by omega)
      have c1 := d0 k hlt
      have q0 : (0 : Int) ≤ (k : Int) := by omega
      have q1 : (k : Int) < (L.length : Int) := by omega
      have HT := Kp.mk (inW_take (x := lowB x) hlt)
      have HHit := Kp.mk (inW_hit (x := lowB x) hlt)
      clear d0
      generalize L[k] = y at *
      have p0 := fun p : InS (Below wr.heap.size wr) => (p.ok.cell (p := ⟨g, o + k, none⟩) hgl).trans c1
      have HD := Kp.mk (show Below wr.heap.size wr wr.drew from ⟨rfl, rfl, rfl, Nat.le_refl _, fun _ _ => rfl⟩)
      haveI hne : Nonempty (InS (Below wr.heap.size wr)) := ⟨⟨_, Below.refl _ _⟩⟩
      go_wp2_with fail
      refine region_in _ (by kernel_rfl) (by kernel_rfl) HD.out ?_
      repeat (go_big_quiet_step (first
        | (go_at_call 61; exact call_in fun w h => (ref_lower_any x w (by omega)).mono fun _ _ h2 => ⟨h2.1, h.trans (h2.2.mono h.size)⟩)))
      refine wpQuiet_nil ?_
      intro _ hw'
      obtain ⟨wq, rfl⟩ := hw'
      have HQ := Kp.mk (HB.out.trans (wq.ok.mono HB.out.size))
      have HQW := Kp.mk (HBW.out.trans (wq.ok.mono HBW.out.size))
      cases hf : (y.toList == (lowB x).toList)
      · have HT2 := Kp.mk (show inW (lowB x) (L.take (k + 1)) = false by rw [HT.out, hf, HH.out]; rfl)
        go_wp2_with fail
        go_roundw
        case rel => exact ⟨k + 1, by omega, by go_num, HT2.out, HQ.out⟩
        case measure => simp [intOf]; omega
      · have HT2 := Kp.mk (HHit.out hf)
        go_wp2_with fail
        go_ret
        exact ⟨by rw [HLL.out, HT2.out]; rfl, HQW.out⟩
    · have HK := Kp.mk (show inW (lowB x) L = false by have := HH.out; rwa [List.take_of_length_le (by omega)] at this)
      go_wp2_with fail
      go_ret
      exact ⟨by rw [HLL.out, HK.out]; rfl, HBW.out⟩
end Go.Proofs.Ythlkflneldjnjaa
