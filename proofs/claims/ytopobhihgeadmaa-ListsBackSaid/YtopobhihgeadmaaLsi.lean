/- Lists (layer 7): the document's example; the laws ListsSplit, ListsJoin. -/
import Derived.Test.YtopobhihgeadmaaLsh
import Derived.Test.YtopobhihgeadmaaHdf
import Derived.Test.YtopobhihgeadmaaHdb
import Derived.Deep.DeepCutAuto
import Derived.Deep.QuietTactic
namespace Go.Proofs.Ytopobhihgeadmaa
open Go.RowKit
set_option linter.unusedVariables false
set_option linter.unusedSimpArgs false

theorem sameL_s {α : Type} [DecidableEq α] (l : List α) : sameL l l = true := decide_eq_true rfl
def exL : ByteArray := ⟨#[97, 44, 32, 34, 98, 44, 99, 34, 32, 40, 100, 44, 101, 41, 44, 44, 102]⟩
def exM : ByteArray := ⟨#[34, 98, 44, 99, 34, 32, 40, 100, 44, 101, 41]⟩
set_option maxRecDepth 100000 in
set_option maxHeartbeats 1000000 in
theorem lives07_any (w : World) : Calls Try.prog 40 #[] w fun e w' => e = .returned (.bool true) ∧ Below w.heap.size w w' := by
  have HE := Kp.mk (show splL exL = [⟨#[97]⟩, exM, ⟨#[102]⟩] by decide +kernel)
  have HEB := Kp.mk (show splB exL = true by decide +kernel)
  have HJ := Kp.mk (show hJoin [⟨#[97]⟩, ⟨#[98]⟩] = ⟨#[97, 44, 32, 98]⟩ by decide +kernel)
  have HH := Kp.mk (show hasB ⟨#[97, 44, 66]⟩ ⟨#[98]⟩ = true by decide +kernel)
  go_enter Try.func40, Try.ntmps40
  go_wp2_with fail
  refine (split_any exL _ (by decide)).mono ?_
  rintro e w1 ⟨v, rfl, ho, hb1⟩
  rw [HE.out] at ho
  rw [HEB.out]
  have HB1 := Kp.mk hb1
  have HR := Kp.mk (rds_own ho)
  obtain ⟨a, c, rfl⟩ := own_lenH ho
  clear ho hb1
  have HBA := Kp.mk ((Below.refl w1.heap.size w1).alloc (Nat.le_refl _) (.cells #[.string ⟨#[97]⟩, .string exM, .string ⟨#[102]⟩] 9))
  have HRL := Kp.mk (rds_own (l := [⟨#[97]⟩, exM, ⟨#[102]⟩]) (World.ownsRow_lit (base := w1.heap.size) (e := 9) (size := 1) w1 #[.string ⟨#[97]⟩, .string exM, .string ⟨#[102]⟩] 3 (Nat.le_refl _) (by unfold maxLen; omega) rfl))
  go_wp2_with fail
  refine (rssame_any _ _ [⟨#[97]⟩, exM, ⟨#[102]⟩] [⟨#[97]⟩, exM, ⟨#[102]⟩] _ (HR.out.below HBA.out) HRL.out (by decide) (by decide)).mono ?_
  rw [sameL_s]
  rintro e w2 ⟨rfl, hb2⟩
  have HB2 := Kp.mk (HB1.out.trans ((HBA.out.trans (hb2.mono HBA.out.size)).mono HB1.out.size))
  clear hb2
  have HBB := Kp.mk ((Below.refl w2.heap.size w2).alloc (Nat.le_refl _) (.cells #[.string ⟨#[97]⟩, .string ⟨#[98]⟩] 9))
  have HRM := Kp.mk (rds_own (l := [⟨#[97]⟩, ⟨#[98]⟩]) (World.ownsRow_lit (base := w2.heap.size) (e := 9) (size := 1) w2 #[.string ⟨#[97]⟩, .string ⟨#[98]⟩] 2 (Nat.le_refl _) (by unfold maxLen; omega) rfl))
  have HSM := Kp.mk (show ∀ s ∈ [(⟨#[97]⟩ : ByteArray), ⟨#[98]⟩], s.size ≤ 100000 by intro s hs; simp at hs; rcases hs with rfl | rfl <;> decide)
  go_wp2_with fail
  refine (hjoin_any _ [⟨#[97]⟩, ⟨#[98]⟩] _ HRM.out HSM.out (by decide)).mono ?_
  rw [HJ.out]
  rintro e w3 ⟨rfl, hb3⟩
  have HB3 := Kp.mk (HB2.out.trans ((HBB.out.trans (hb3.mono HBB.out.size)).mono HB2.out.size))
  clear hb3
  go_wp2_with fail
  refine (has_any _ _ _ (by decide) (by decide)).mono ?_
  rw [HH.out]
  rintro e w4 ⟨rfl, hb4⟩
  have HB4 := Kp.mk (HB3.out.trans (hb4.mono HB3.out.size))
  clear hb4
  go_wp2_with fail
  go_ret
  exact ⟨rfl, HB4.out⟩
set_option maxRecDepth 100000 in
set_option maxHeartbeats 2000000 in
theorem lsplit_walk (s0 t0 : ByteArray) (w : World) (hs : s0.size ≤ maxLen) (ht : t0.size ≤ maxLen) :
    Calls Try.prog 8 #[.string s0, .string t0] w fun e w' => e = .returned (.bool true) ∧ Below w.heap.size w w' := by
  unfold maxLen at hs ht
  have ha := extract_le s0 1000
  have hb := extract_le t0 100
  have HA := Kp.mk ha
  have HBX := Kp.mk hb
  clear ha hb
  go_enter Try.func8, Try.ntmps8
  go_upto_region 1 with fail
  go_cut [0, 1] (fun u0 u1 wx => ∃ s t : ByteArray, u0 = .string s ∧ u1 = .string t ∧ s.size ≤ 1000 ∧ t.size ≤ 100 ∧ Below w.heap.size w wx)
  case first =>
    go_quiet (fail)
    go_wp2_with fail
    go_meet
    exact ⟨_, _, rfl, rfl, by rw [ByteArray.size_extract]; omega, by rw [ByteArray.size_extract]; omega, below_drewN _ _⟩
  case rest =>
    obtain ⟨s, t, rfl, rfl, h1, h2, hbel⟩ := hcut
    have HB0 := Kp.mk hbel
    have hln := splL_len s
    clear HA HBX hbel hs ht
    go_wp2_with fail
    refine (split_any s _ (by omega)).mono ?_
    rintro e w1 ⟨v, rfl, ho, hb1⟩
    have HB1 := Kp.mk (HB0.out.trans (hb1.mono HB0.out.size))
    have HR := Kp.mk (rds_own ho)
    obtain ⟨a, c, rfl⟩ := own_lenH ho
    clear ho hb1
    go_wp2_with fail
    refine (rsplit_any s _ (by omega)).mono ?_
    rintro e w2 ⟨v2, rfl, ho, hb2⟩
    have HB2 := Kp.mk (HB1.out.trans (hb2.mono HB1.out.size))
    have HR1 := Kp.mk (HR.out.below hb2)
    have HR2 := Kp.mk (rds_own ho)
    obtain ⟨a2, c2, rfl⟩ := own_lenH ho
    clear ho hb2
    generalize splL s = L at *
    generalize splB s = b at *
    go_wp2_with fail
    refine (rssame_any _ _ L L _ HR1.out HR2.out (by omega) (by omega)).mono ?_
    rw [sameL_s]
    rintro e w3 ⟨rfl, hb3⟩
    have HB3 := Kp.mk (HB2.out.trans (hb3.mono HB2.out.size))
    clear hb3
    have hbb : (b == b) = true := by cases b <;> rfl
    go_wp2_with fail
    refine (has_any s t _ (by omega) (by omega)).mono ?_
    rintro e w4 ⟨rfl, hb4⟩
    have HB4 := Kp.mk (HB3.out.trans (hb4.mono HB3.out.size))
    clear hb4
    go_wp2_with fail
    refine (rhas_any s t _ (by omega) (by omega)).mono ?_
    rintro e w5 ⟨rfl, hb5⟩
    have HB5 := Kp.mk (HB4.out.trans (hb5.mono HB4.out.size))
    clear hb5
    generalize hasB s t = h at *
    have hhb : (h == h) = true := by cases h <;> rfl
    go_wp2_with fail
    refine (lives07_any _).mono ?_
    rintro e w6 ⟨rfl, hb6⟩
    have HB6 := Kp.mk (HB5.out.trans (hb6.mono HB5.out.size))
    clear hb6
    go_wp2_with fail
    go_ret
    exact ⟨rfl, HB6.out⟩
theorem lsplit_arg (v0 v1 : Value) (w : World) (h0 : Arg Try.prog w 9 v0) (h1 : Arg Try.prog w 9 v1) :
    Calls Try.prog 8 #[v0, v1] w fun e w' => e = .returned (.bool true) ∧ Below w.heap.size w w' := by
  obtain ⟨s, rfl, hs⟩ := h0.str Try.underlying9
  obtain ⟨t, rfl, ht⟩ := h1.str Try.underlying9
  exact lsplit_walk s t w hs ht
def okJ (l : List ByteArray) (k : Nat) : Prop := ∀ (j : Nat) (h : j < l.length), j < k → l[j].size ≤ 100
set_option maxRecDepth 100000 in
set_option maxHeartbeats 2000000 in
theorem ljoin_walk (v : Value) (l : List ByteArray) (w : World) (hv : RdS w v l) (hz : ∀ s ∈ l, s.size ≤ maxLen) :
    Calls Try.prog 7 #[v] w fun e w' => e = .returned (.bool true) ∧ Below w.heap.size w w' := by
  have HV := Kp.mk hv
  have HZ := Kp.mk hz
  obtain ⟨a, cap, rfl, hc1, hc2, -⟩ := hv
  clear hz
  go_enter Try.func7, Try.ntmps7
  by_cases h50 : l.length ≤ 50
  · have q9 : ¬ (50 : Int) < (l.length : Int) := by omega
    go_wp2_with fail
    go_loopw [11] (fun i wr => ∃ k : Nat, k ≤ l.length ∧ i = .int .i64 k ∧ okJ l k ∧ Below w.heap.size w wr) (fun i _ => l.length - (intOf i).toNat)
    case atStart => exact ⟨0, by omega, rfl, fun j _ h => by omega, Below.refl _ _⟩
    case round =>
      obtain ⟨k, hk, rfl, hh, hb⟩ := hrel
      have HB := Kp.mk hb
      have HH := Kp.mk hh
      clear hh hb
      by_cases hlt : k < l.length
      · obtain ⟨g, o, rfl, hgl, d0⟩ := rds_cells (HV.out.below HB.out) (by omega)
        have c1 := d0 k hlt
        have m1 := HZ.out l[k] (List.getElem_mem hlt)
        unfold maxLen at m1
        have q0 : (0 : Int) ≤ (k : Int) := by omega
        have q1 : (k : Int) < (l.length : Int) := by omega
        clear d0
        by_cases hx : l[k].size ≤ 100
        · have HN := Kp.mk (show okJ l (k + 1) from fun j hj h => by
            by_cases hjk : j = k
            · subst hjk; exact hx
            · exact HH.out j hj (by omega))
          generalize l[k] = x at *
          have q2 : ¬ (100 : Int) < (x.size : Int) := by omega
          go_wp2_with fail
          go_roundw
          case rel => exact ⟨k + 1, by omega, by go_num, HN.out, HB.out⟩
          case measure => simp [intOf]; omega
        · generalize l[k] = x at *
          have q2 : (100 : Int) < (x.size : Int) := by omega
          go_wp2_with fail
          refine (lives07_any _).mono ?_
          rintro e w6 ⟨rfl, hb6⟩
          have HB6 := Kp.mk (HB.out.trans (hb6.mono HB.out.size))
          clear hb6
          go_wp2_with fail
          go_ret
          exact ⟨rfl, HB6.out⟩
      · have HS := Kp.mk (show ∀ s ∈ l, s.size ≤ 100000 from fun s hs => by
          obtain ⟨j, hj, rfl⟩ := List.getElem_of_mem hs
          have := HH.out j hj (by omega)
          omega)
        have q1 : ¬ (k : Int) < (l.length : Int) := by omega
        go_wp2_with fail
        refine (hjoin_any _ l _ (HV.out.below HB.out) HS.out (by omega)).mono ?_
        rintro e w3 ⟨rfl, hb3⟩
        have HB3 := Kp.mk (HB.out.trans (hb3.mono HB.out.size))
        clear hb3
        go_wp2_with fail
        refine (rhjoin_any _ l _ (HV.out.below HB3.out) HS.out (by omega)).mono ?_
        rintro e w4 ⟨rfl, hb4⟩
        have HB4 := Kp.mk (HB3.out.trans (hb4.mono HB3.out.size))
        clear hb4
        generalize hJoin l = s at *
        go_wp2_with fail
        refine (lives07_any _).mono ?_
        rintro e w6 ⟨rfl, hb6⟩
        have HB6 := Kp.mk (HB4.out.trans (hb6.mono HB4.out.size))
        clear hb6
        go_wp2_with fail
        go_ret
        exact ⟨rfl, HB6.out⟩
  · have q9 : (50 : Int) < (l.length : Int) := by omega
    go_wp2_with fail
    refine (lives07_any _).mono ?_
    rintro e w6 ⟨rfl, hb6⟩
    have HB6 := Kp.mk hb6
    clear hb6
    go_wp2_with fail
    go_ret
    exact ⟨rfl, HB6.out⟩
theorem ljoin_arg (v0 : Value) (w : World) (h0 : Arg Try.prog w 74 v0) :
    Calls Try.prog 7 #[v0] w fun e w' => e = .returned (.bool true) ∧ Below w.heap.size w w' := by
  obtain ⟨l, hv, hz⟩ := h0.strs Try.underlying74 Try.underlying9 Try.fcellsFs
  exact ljoin_walk v0 l w hv hz
end Go.Proofs.Ytopobhihgeadmaa
