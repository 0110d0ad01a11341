/- Connections (layer 17): the words, on both sides. -/
import Derived.Test.YthlkflneldjnjaaCna
namespace Go.Proofs.Ythlkflneldjnjaa
open Go.RowKit
set_option linter.unusedVariables false
set_option linter.unusedSimpArgs false

theorem cw1_any (x : ByteArray) (w : World) (hx : x.size ≤ maxLen) : Calls Try.prog 55 #[.string x] w fun e w' => e = .returned (.bool (!tokenB x)) ∧ Below w.heap.size w w' := by
  go_enter Try.func55, Try.ntmps55
  go_wp2_with fail
  refine (oct_token_any x _ hx).mono ?_
  rintro e w1 ⟨rfl, hb⟩
  go_wp2_with fail
  go_ret
  exact ⟨rfl, hb⟩
def CIdx (b : Bool) (w : World) (e : Ending) (w' : World) : Prop := ∃ r : Int, e = .returned (.int .i64 r) ∧ decide (0 ≤ r) = b ∧ Below w.heap.size w w'
set_option maxRecDepth 100000 in
set_option maxHeartbeats 2000000 in
theorem cix_any (v : Value) (ns : List ByteArray) (w : World) (hv : RdS w v ns) (hz : ∀ n ∈ ns, n.size ≤ 100000) (hl : ns.length ≤ 100000) :
    Calls Try.prog 91 #[v, .func (.func 55) #[] #[]] w (CIdx (!ns.all tokenB) w) := by
  have HV := Kp.mk hv
  have HZ := Kp.mk hz
  obtain ⟨a, cap, rfl, hc1, hc2, -⟩ := hv
  clear hz hc2
  go_enter Try.func91, Try.ntmps91
  go_wp2_with fail
  go_loopw [8] (fun i wr => ∃ k : Nat, k ≤ ns.length ∧ i = .int .i64 k ∧ okT ns k ∧ Below w.heap.size w wr) (fun i _ => ns.length - (intOf i).toNat)
  case atStart => exact ⟨0, by omega, rfl, fun j _ h => by omega, Below.refl _ _⟩
  case round =>
    obtain ⟨k, hk, rfl, hh, hb⟩ := hrel
    have HB := Kp.mk hb
    have HH := Kp.mk hh
    have hsz := hb.size
    clear hh hb
    by_cases hlt : k < ns.length
    · obtain ⟨g, o, rfl, hgl, d0⟩ := rds_cells (HV.out.below HB.out) (by omega)
      have c1 := d0 k hlt
      have m1 := HZ.out ns[k] (List.getElem_mem hlt)
      have q0 : (0 : Int) ≤ (k : Int) := by omega
      have q1 : (k : Int) < (ns.length : Int) := by omega
      have HN := Kp.mk (fun (ht : tokenB ns[k] = true) => show okT ns (k + 1) from fun j hj h => by
        by_cases hjk : j = k
        · subst hjk; exact ht
        · exact HH.out j hj (by omega))
      have HHit := Kp.mk (tok_hit hlt)
      clear d0
      generalize ns[k] = n at *
      go_wp2_with fail
      refine (cw1_any n _ (by unfold maxLen; omega)).mono ?_
      rintro e w2 ⟨rfl, hb2⟩
      have HB2 := Kp.mk (HB.out.trans (hb2.mono hsz))
      clear hb2
      cases hf : tokenB n
      · have HT2 := Kp.mk (HHit.out hf)
        go_wp2_with fail
        go_ret
        exact ⟨_, rfl, by rw [HT2.out]; exact decide_eq_true (by omega), HB2.out⟩
      · have HT2 := Kp.mk (HN.out hf)
        go_wp2_with fail
        go_roundw
        case rel => exact ⟨k + 1, by omega, by go_num, HT2.out, HB2.out⟩
        case measure => simp [intOf]; omega
    · have HK := Kp.mk (okT_all (by omega) HH.out)
      go_wp2_with fail
      go_ret
      exact ⟨-1, rfl, by rw [HK.out]; rfl, HB.out⟩
theorem ccof_any (v : Value) (ns : List ByteArray) (w : World) (hv : RdS w v ns) (hz : ∀ n ∈ ns, n.size ≤ 100000) (hl : ns.length ≤ 100000) :
    Calls Try.prog 54 #[v, .func (.func 55) #[] #[]] w fun e w' => e = .returned (.bool (!ns.all tokenB)) ∧ Below w.heap.size w w' := by
  have HV := Kp.mk hv
  have HZ := Kp.mk hz
  clear hv hz
  go_enter Try.func54, Try.ntmps54
  go_wp2_with fail
  refine (cix_any v ns _ HV.out HZ.out hl).mono ?_
  rintro e w1 ⟨r, rfl, hr, hb⟩
  have HR := Kp.mk hr
  clear hr
  go_wp2_with fail
  go_ret
  exact ⟨by rw [← HR.out]; rfl, hb⟩
theorem own_form2 {w : World} {B : Nat} {e : TypeId} {sz n : Nat} {a : Option Addr} {c : Nat} {xs : List Value} (h : w.ownsRow B e sz (.slice a n c) n xs) : (a = none ∧ n = 0) ∨ ∃ g, a = some ⟨g, 0, none⟩ := by
  rcases h.2 with ⟨h, h0⟩ | ⟨g, cap, cur, h, _⟩
  · cases h
    exact .inl ⟨rfl, rfl⟩
  · cases h
    exact .inr ⟨g, rfl⟩
def RetC (v : ByteArray) (w : World) (e : Ending) (w' : World) : Prop := ∃ u, e = .returned (.tuple #[u, .int .i64 (conE v)]) ∧ w'.ownsRow w.heap.size 9 1 u (conW v).length (svH (conW v)) ∧ Below w.heap.size w w'
theorem beq_swap (a b : List UInt8) : (a == b) = (b == a) := by rw [Bool.eq_iff_iff, beq_iff_eq, beq_iff_eq]; exact eq_comm
set_option maxRecDepth 100000 in
set_option maxHeartbeats 2000000 in
theorem words_any (vl : Value) (l : List Fld) (w : World) (hv : RdF w vl l) (hF : FewF l) : Calls Try.prog 15 #[vl] w (RetC (conV l) w) := by
  have hcz := hF.comb nmCon
  have hln := splL_len (conV l)
  have HZ := Kp.mk (fun x (h : x ∈ splL (conV l)) => show x.size ≤ 100000 by have h1 := (splL_mem h).2; have h2 : (conV l).size ≤ 50100 := hcz; omega)
  have HCV := Kp.mk (show hJoin (hAll l nmCon) = conV l from rfl)
  have hvz : (conV l).size ≤ 50100 := hcz
  have HBA := Kp.mk (fun h => con_bad (v := conV l) h)
  have HGO := Kp.mk (fun h1 h2 => con_good (v := conV l) h1 h2)
  have HV := Kp.mk hv
  have HS := Kp.mk hF.sm
  have hl5 := hF.len
  clear hcz hF hv
  go_enter Try.func15, Try.ntmps15
  go_wp2_with fail
  refine (hcomb_any vl l nmCon _ HV.out HS.out (by omega) (by decide)).mono ?_
  rintro e w1 ⟨rfl, hb1⟩
  rw [HCV.out]
  have HB1 := Kp.mk hb1
  clear hb1
  generalize conV l = v at *
  generalize hIs l nmCon = hi at *
  go_wp2_with fail
  refine (split_any v _ (by omega)).mono ?_
  rintro e w2 ⟨u, rfl, ho, hb2⟩
  have HB2 := Kp.mk (HB1.out.trans (hb2.mono HB1.out.size))
  have HO := Kp.mk (own_low ho HB1.out.size)
  have HR := Kp.mk (rds_own ho)
  obtain ⟨a, c, rfl⟩ := own_lenH ho
  have hform := own_form2 ho
  clear ho hb2
  cases hsb : splB v
  · obtain ⟨e1, e2⟩ := HBA.out (.inl hsb)
    have E1 := Kp.mk e1
    have E2 := Kp.mk e2
    clear e1 e2
    go_wp2_with fail
    go_ret2
    exact ⟨.slice none 0 0, by rw [E1.out]; rfl, by rw [E2.out]; exact World.ownsRow_nil _ _ _ _, HB2.out⟩
  · have HGO2 := Kp.mk (HGO.out hsb)
    have HBA2 := Kp.mk (fun h => HBA.out (.inr h))
    generalize splL v = L at *
    have hLs : L.length ≤ 100000 := by omega
    go_wp2_with fail
    refine (ccof_any _ L _ HR.out HZ.out hLs).mono ?_
    rintro e w3 ⟨rfl, hb3⟩
    have HB3 := Kp.mk (HB2.out.trans (hb3.mono HB2.out.size))
    have HO3 := Kp.mk (own_bel HO.out hb3)
    clear hb3
    cases hta : L.all tokenB
    · obtain ⟨e1, e2⟩ := HBA2.out hta
      have E1 := Kp.mk e1
      have E2 := Kp.mk e2
      clear e1 e2
      go_wp2_with fail
      go_ret2
      exact ⟨.slice none 0 0, by rw [E1.out]; rfl, by rw [E2.out]; exact World.ownsRow_nil _ _ _ _, HB3.out⟩
    · obtain ⟨e1, e2⟩ := HGO2.out hta
      have E1 := Kp.mk e1
      have E2 := Kp.mk e2
      clear e1 e2
      go_wp2_with fail
      go_loopw [28] (fun i wr => ∃ k : Nat, k ≤ L.length ∧ i = .int .i64 k ∧ wr.ownsRow w.heap.size 9 1 (.slice a L.length c) L.length (svH (lowT L k)) ∧ Below w.heap.size w wr) (fun i _ => L.length - (intOf i).toNat)
      case atStart => exact ⟨0, by omega, rfl, by rw [lowT_zero]; exact HO3.out, HB3.out⟩
      case round =>
        obtain ⟨k, hk, rfl, hown, hb⟩ := hrel
        have HOW := Kp.mk hown
        have HB := Kp.mk hb
        have HRD := Kp.mk (rds_own (l := lowT L k) (by rw [lowT_len]; exact hown))
        clear hown hb
        by_cases hlt : k < L.length
        · have hlt2 : k < (lowT L k).length := by rw [lowT_len]; exact hlt
          have hfm : ∃ g, a = some ⟨g, 0, none⟩ := by
            rcases hform with ⟨_, h0⟩ | ⟨g, h0⟩
            · omega
            · exact ⟨g, h0⟩
          obtain ⟨g, rfl⟩ := hfm
          obtain ⟨g', o', he, hgl, d0⟩ := rds_cells HRD.out (by omega)
          cases he
          have c1 := d0 k hlt2
          rw [lowT_at hlt, Nat.zero_add] at c1
          have m1 := HZ.out L[k] (List.getElem_mem hlt)
          have HST := Kp.mk (lowT_step hlt)
          have q0 : (0 : Int) ≤ (k : Int) := by omega
          have q1 : (k : Int) < (L.length : Int) := by omega
          have hgz : w.heap.size ≤ g := (HOW.out.lt g rfl).1
          clear d0
          generalize L[k] = x at *
          go_wp2_with fail
          refine (oct_lower_any x _ (by omega)).mono ?_
          rintro e w5 ⟨rfl, hb5⟩
          have HO5 := Kp.mk (own_bel HOW.out hb5)
          have HB5 := Kp.mk (HB.out.trans (hb5.mono HB.out.size))
          have c5 := (hb5.cell (p := ⟨g, k, none⟩) hgl).trans c1
          have f5 : w5.frozen? ⟨g, k, none⟩ = false := by
            rcases HO5.out.2 with ⟨h0, _⟩ | ⟨_, _, _, h0, _, h1, _⟩
            · cases h0
            · cases h0
              exact blk_free h1
          clear hb5 c1
          go_wp2_with fail
          go_roundw
          case rel =>
            refine ⟨k + 1, by omega, by go_num, ?_, HB5.out.setCell hgz _⟩
            have h9 := own_store (u := .string (lowB x)) HO5.out hlt
            rw [HST.out, svH_map, List.map_set, ← svH_map]
            exact h9
          case measure => simp [intOf]; omega
        · have HK := Kp.mk (lowT_all (L := L) (k := k) (by omega))
          go_wp2_with fail
          go_ret2
          refine ⟨.slice a L.length c, by rw [E1.out]; rfl, ?_, HB.out⟩
          rw [E2.out, List.length_map, ← HK.out]
          exact HOW.out
end Go.Proofs.Ythlkflneldjnjaa
