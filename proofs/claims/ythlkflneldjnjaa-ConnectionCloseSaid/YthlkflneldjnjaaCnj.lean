/- Connections (layer 17): close ends all; the law ConnectionClose. -/
import Derived.Test.YthlkflneldjnjaaCnh
import Derived.Test.YthlkflneldjnjaaCni
import Derived.Test.YthlkflneldjnjaaCpt
namespace Go.Proofs.Ythlkflneldjnjaa
open Go.RowKit
set_option linter.unusedVariables false
set_option linter.unusedSimpArgs false

def nmcon : ByteArray := ⟨#[99, 111, 110, 110, 101, 99, 116, 105, 111, 110]⟩
def vClose : ByteArray := ⟨#[67, 108, 111, 115, 101]⟩
def vCLOSE : ByteArray := ⟨#[67, 76, 79, 83, 69]⟩
theorem close_good : Good vClose.data.toList := by unfold Good; decide +kernel
theorem close_fil : (List.filter (fun p : Fld => foldB p.1 nmCon) [(nmcon, vClose)]).map (·.2) = [vClose] := by decide +kernel
theorem close_alone : splL (hJoin ([] ++ [vClose])) = [vClose] := by decide +kernel
theorem hAll_more (l : List Fld) : hAll (l ++ [(nmcon, vClose)]) nmCon = hAll l nmCon ++ [vClose] := by
  unfold hAll
  rw [List.filter_append, List.map_append, close_fil]
theorem in_close {L : List ByteArray} (h : vClose ∈ L) : inW wClose (L.map lowB) = true := by
  unfold inW
  rw [List.any_map, List.any_eq_true]
  exact ⟨vClose, h, by decide +kernel⟩
theorem per_close (m : Int) (l : List Fld) : perB m (conV (l ++ [(nmcon, vClose)])) = false := by
  have key : splB (conV (l ++ [(nmcon, vClose)])) = false ∨ vClose ∈ splL (conV (l ++ [(nmcon, vClose)])) := by
    unfold conV
    rw [hAll_more]
    generalize hAll l nmCon = A
    by_cases hA : A = []
    · subst hA
      right
      rw [close_alone]
      exact List.mem_singleton.2 rfl
    · have h := hJoin_snoc A vClose hA
      have hd : (hJoin (A ++ [vClose])).data.toList = (hJoin A).data.toList ++ (44 :: 32 :: vClose.data.toList) := by
        rw [h, cat_app, cat_app, List.append_assoc]
        rfl
      exact spl_more hd close_good (by decide +kernel) (by decide +kernel) (by decide +kernel)
  generalize conV (l ++ [(nmcon, vClose)]) = v at *
  rcases key with h | h
  · exact perB_bad (con_bad (.inl h)).1
  · cases hs : splB v
    · exact perB_bad (con_bad (.inl hs)).1
    · cases ht : (splL v).all tokenB
      · exact perB_bad (con_bad (.inr ht)).1
      · obtain ⟨g1, g2⟩ := con_good hs ht
        rw [perB_good g1, g2, in_close h]
        rfl
theorem conW_bad {v : ByteArray} (h : conE v ≠ 0) : conE v = 3 ∧ conW v = [] := by
  unfold conE conW at *
  split at h
  · exact absurd rfl h
  · rename_i hc
    rw [if_neg hc, if_neg hc]
    exact ⟨rfl, rfl⟩
theorem low_CLOSE : lowB vCLOSE = wClose := by decide +kernel
theorem fewF_more {l : List Fld} (h : hFew l = true) : FewF (l ++ [(nmcon, vClose)]) := by
  refine ⟨by rw [List.length_append]; have := (hFew_out h).1; simp; omega, fun p hp => ?_⟩
  rw [List.mem_append, List.mem_singleton] at hp
  rcases hp with hp | rfl
  · have := hFew_vals h p hp
    omega
  · exact ⟨by decide, by decide⟩
set_option maxRecDepth 100000 in
set_option maxHeartbeats 1500000 in
theorem cclose_walk (vl : Value) (l : List Fld) (m : Int) (w : World) (h1 : RdF w vl l) (z1 : ∀ p ∈ l, FldOk p) :
    Calls Try.prog 5 #[vl, .int .i64 m] w fun e w' => e = .returned (.bool true) ∧ Below w.heap.size w w' := by
  have H1 := Kp.mk h1
  have f1 := few10_any vl l w h1 z1
  cases hfl : hFew l
  · rw [hfl] at f1
    clear h1 z1
    go_enter Try.func5, Try.ntmps5
    go_wp2_with fail
    refine f1.mono ?_
    rintro e w1 ⟨rfl, hb1⟩
    have HB1 := Kp.mk hb1
    clear hb1
    go_wp2_with fail
    refine (lives17_any _).mono ?_
    rintro e w9 ⟨rfl, hb9⟩
    have HB9 := Kp.mk (HB1.out.trans (hb9.mono HB1.out.size))
    clear hb9
    go_wp2_with fail
    go_ret
    exact ⟨rfl, HB9.out⟩
  · rw [hfl] at f1
    have HF := Kp.mk (fewF_of hfl)
    have HF2 := Kp.mk (fewF_more hfl)
    have HPC := Kp.mk (per_close m l)
    have hl5 := HF.out.len
    clear z1 h1
    go_enter Try.func5, Try.ntmps5
    go_wp2_with fail
    refine f1.mono ?_
    rintro e w1 ⟨rfl, hb1⟩
    have HB1 := Kp.mk hb1
    clear hb1 f1
    go_wp2_with fail
    refine (hwith_any vl l nmcon vClose _ (H1.out.below HB1.out) (by omega)).mono ?_
    generalize l ++ [(nmcon, vClose)] = l2 at *
    rintro e w2 ⟨u, rfl, ho, hb2⟩
    have HB2 := Kp.mk (HB1.out.trans (hb2.mono HB1.out.size))
    have RU := Kp.mk (rdf_own ho)
    obtain ⟨a, c, rfl⟩ := own_lenH ho
    clear ho hb2
    go_wp2_with fail
    refine (cpers_any m _ l2 _ RU.out HF2.out).mono ?_
    rw [HPC.out]
    rintro e w3 ⟨rfl, hb3⟩
    have HB3 := Kp.mk (HB2.out.trans (hb3.mono HB2.out.size))
    clear hb3 RU
    go_wp2_with fail
    refine (words_any vl l _ (H1.out.below HB3.out) HF.out).mono ?_
    rintro e w4 ⟨u, rfl, ho, hb4⟩
    have HB4 := Kp.mk (HB3.out.trans (hb4.mono HB3.out.size))
    obtain ⟨a2, c2, rfl⟩ := own_lenH ho
    clear ho hb4
    by_cases he : conE (conV l) = 0
    · have HG := Kp.mk (perB_good (m := 1) he)
      have q1 : (conE (conV l) != 0) = false := by rw [he]; rfl
      have HLO := Kp.mk low_CLOSE
      generalize conE (conV l) = er at *
      go_wp2_with fail
      refine (cpers_any 1 vl l _ (H1.out.below HB4.out) HF.out).mono ?_
      rw [HG.out]
      rintro e w5 ⟨rfl, hb5⟩
      have HB5 := Kp.mk (HB4.out.trans (hb5.mono HB4.out.size))
      clear hb5
      go_wp2_with fail
      refine (chas_any vl l vCLOSE _ (H1.out.below HB5.out) HF.out (by decide)).mono ?_
      rw [HLO.out]
      rintro e w6 ⟨rfl, hb6⟩
      have HB6 := Kp.mk (HB5.out.trans (hb6.mono HB5.out.size))
      clear hb6
      generalize inW wClose (conW (conV l)) = ib at *
      generalize inW wKeep (conW (conV l)) = kb at *
      have h8 : ((!ib && (decide ((0 : Int) < 1) || kb)) == !ib) = true := by cases ib <;> cases kb <;> rfl
      have h9 : (!ib == !ib) = true := by cases ib <;> rfl
      go_wp2_with fail
      refine (lives17_any _).mono ?_
      rintro e w9 ⟨rfl, hb9⟩
      have HB9 := Kp.mk (HB6.out.trans (hb9.mono HB6.out.size))
      clear hb9
      go_wp2_with fail
      go_ret
      exact ⟨rfl, HB9.out⟩
    · obtain ⟨e3, eW⟩ := conW_bad he
      have HP3 := Kp.mk (perB_bad (m := m) e3)
      have HW3 := Kp.mk eW
      have HLO := Kp.mk low_close
      have q1 : (conE (conV l) != 0) = true := by rw [bne_iff_ne]; exact he
      clear e3 eW
      go_wp2_with fail
      refine (cpers_any m vl l _ (H1.out.below HB4.out) HF.out).mono ?_
      rw [HP3.out]
      rintro e w5 ⟨rfl, hb5⟩
      have HB5 := Kp.mk (HB4.out.trans (hb5.mono HB4.out.size))
      clear hb5
      go_wp2_with fail
      refine (chas_any vl l wClose _ (H1.out.below HB5.out) HF.out (by decide)).mono ?_
      rw [HW3.out, show inW (lowB wClose) [] = false from rfl]
      rintro e w6 ⟨rfl, hb6⟩
      have HB6 := Kp.mk (HB5.out.trans (hb6.mono HB5.out.size))
      clear hb6
      go_wp2_with fail
      refine (lives17_any _).mono ?_
      rintro e w9 ⟨rfl, hb9⟩
      have HB9 := Kp.mk (HB6.out.trans (hb9.mono HB6.out.size))
      clear hb9
      go_wp2_with fail
      go_ret
      exact ⟨rfl, HB9.out⟩
theorem cclose_arg (v0 v1 : Value) (w : World) (h0 : Arg Try.prog w 22 v0) (h1 : Arg Try.prog w 3 v1) :
    Calls Try.prog 5 #[v0, v1] w fun e w' => e = .returned (.bool true) ∧ Below w.heap.size w w' := by
  obtain ⟨l, hv, hz⟩ := hlist_argC v0 w h0
  obtain ⟨m, rfl, _⟩ := h1.int Try.underlying3
  exact cclose_walk v0 l m w hv hz
end Go.Proofs.Ythlkflneldjnjaa
