/- Lengths (layer 18): the document's parts and length. -/
import Derived.Test.YtkfpioadimkogaaGreatDoorLea
import Derived.Test.YtkfpioadimkogaaGreatDoorHpa
namespace Go.Proofs.YtkfpioadimkogaaGreatDoor
open Go.RowKit
set_option linter.unusedVariables false
set_option linter.unusedSimpArgs false

def trM (L : List ByteArray) : List ByteArray := L.map trimB
theorem trM_len (L : List ByteArray) : (trM L).length = L.length := List.length_map ..
theorem trM_snoc (L : List ByteArray) (x : ByteArray) : trM (L ++ [x]) = trM L ++ [trimB x] := by unfold trM; rw [List.map_append]; rfl
def lnK (s : ByteArray) : List ByteArray := trM (cmK s)
theorem lnK_end (s : ByteArray) : lnK s = trM (cmAt s s.size).2 ++ [trimB (s.extract (cmAt s s.size).1 s.size)] := by unfold lnK cmK; rw [trM_snoc]
theorem lnK_len (s : ByteArray) : (lnK s).length ≤ s.size + 1 := by unfold lnK; rw [trM_len]; exact cmK_len s
theorem lnK_mem {s x : ByteArray} (h : x ∈ lnK s) : x.size ≤ s.size := by
  unfold lnK trM at h
  obtain ⟨y, hy, rfl⟩ := List.mem_map.1 h
  exact Nat.le_trans (trimB_size y) (cmK_mem hy)
set_option maxRecDepth 100000 in
set_option maxHeartbeats 4000000 in
theorem rparts18_any (s : ByteArray) (w : World) (hs : s.size ≤ 200000000) : Calls Tryz.prog 157 #[.string s] w (RetS (lnK s) w) := by
  have HO0 := Kp.mk (World.ownsRow_lit (base := w.heap.size) (e := 9) (size := 1) w #[] 0 (Nat.le_refl _) (by unfold maxLen; omega) rfl)
  have HB0 := Kp.mk ((Below.refl w.heap.size w).alloc (Nat.le_refl _) (.cells #[] 9))
  have HEND := Kp.mk (lnK_end s)
  go_enter Tryz.func157, Tryz.ntmps157
  go_wp2_with fail
  go_loopw [3, 4, 5] (fun ov fv iv wr => ∃ k : Nat, iv = .int .i64 k ∧ fv = .int .i64 (cmAt s k).1 ∧ k ≤ s.size ∧ wr.ownsRow w.heap.size 9 1 ov (trM (cmAt s k).2).length (svH (trM (cmAt s k).2)) ∧ Below w.heap.size w wr) (fun _ _ iv _ => s.size - (intOf iv).toNat)
  case atStart => exact ⟨0, rfl, rfl, by omega, HO0.out, HB0.out⟩
  case round =>
    obtain ⟨k, rfl, rfl, hk, hown, hb⟩ := hrel
    obtain ⟨av, cv, rfl⟩ := own_lenH hown
    have hfr := cmAt_fr s k
    have hol := cmAt_len s k
    rw [← trM_len] at hol
    have HOW := Kp.mk hown
    have HB := Kp.mk hb
    have hsz := hb.size
    have HHIT := Kp.mk (fun h => cmAt_hit (s := s) (k := k) h)
    have HMISS := Kp.mk (fun h => cmAt_miss (s := s) (k := k) h)
    have HSN := Kp.mk (trM_snoc (cmAt s k).2)
    clear hown hb
    by_cases hlt : k < s.size
    · have q0 : (0 : Int) ≤ (k : Int) := by omega
      have q1 : (k : Int) < (s.size : Int) := by omega
      have hbt := bt_at s k hlt
      generalize hc : cmAt s k = C at *
      obtain ⟨fr, out⟩ := C
      dsimp only at *
      generalize hP : trM out = P at *
      have q5 : (fr : Int) ≤ (k : Int) := by omega
      have hlen : (P.length + 1) * 16 ≤ 140737488355328 := by omega
      have hmx : P.length + 1 ≤ maxLen := by unfold maxLen; omega
      by_cases h44 : bt s k = 44
      · have HN := Kp.mk (HHIT.out h44)
        rw [h44] at hbt
        clear h44
        go_wp2_with fail
        refine (ref_trim_any (s.extract fr k) _ (by unfold maxLen; simp; omega)).mono ?_
        rintro e w5 ⟨rfl, rfl⟩
        have HSX := Kp.mk (HSN.out (s.extract fr k))
        generalize trimB (s.extract fr k) = y at *
        go_wp2_with (at_builtin; refine app_any rfl _ _ _ _ rfl Tryz.underlying55 _ _ _ Tryz.infoSH rfl (by omega) w.heap.size _ _ _ rfl HOW.out #[.string y] rfl (fun u hu => by simp at hu; subst hu; rfl) _ rfl rfl hlen hmx hsz ?_; intro g' cap' w' h1 h2 h3; have G1 := Kp.mk h1; have G2 := Kp.mk h2; clear h1 h2 h3)
        go_roundw
        case rel =>
          refine ⟨k + 1, by go_num, by rw [HN.out]; go_num, by omega, ?_, HB.out.trans (grown_bel HOW.out hsz G2.out)⟩
          rw [HN.out]
          show World.ownsRow _ _ _ _ _ (trM (out ++ [s.extract fr k])).length (svH (trM (out ++ [s.extract fr k])))
          rw [HSX.out, List.length_append, svH_snoc]
          exact G1.out
        case measure => simp [intOf]; omega
      · have HN := Kp.mk (HMISS.out h44)
        generalize bt s k = c at *
        have q44 : ((c : Int) == 44) = false := by rw [beq_eq_false_iff_ne]; omega
        go_wp2_with fail
        go_roundw
        case rel => exact ⟨k + 1, by go_num, by rw [HN.out], by omega, by rw [HN.out]; show World.ownsRow _ _ _ _ _ (trM out).length (svH (trM out)); rw [hP]; exact HOW.out, HB.out⟩
        case measure => simp [intOf]; omega
    · obtain rfl : k = s.size := by omega
      generalize hc : cmAt s s.size = C at *
      obtain ⟨fr, out⟩ := C
      dsimp only at *
      generalize hP : trM out = P at *
      have q5 : (fr : Int) ≤ (s.size : Int) := by omega
      have hlen : (P.length + 1) * 16 ≤ 140737488355328 := by omega
      have hmx : P.length + 1 ≤ maxLen := by unfold maxLen; omega
      go_wp2_with fail
      refine (ref_trim_any (s.extract fr s.size) _ (by unfold maxLen; simp; omega)).mono ?_
      rintro e w5 ⟨rfl, rfl⟩
      generalize trimB (s.extract fr s.size) = y at *
      go_wp2_with (at_builtin; refine app_any rfl _ _ _ _ rfl Tryz.underlying55 _ _ _ Tryz.infoSH rfl (by omega) w.heap.size _ _ _ rfl HOW.out #[.string y] rfl (fun u hu => by simp at hu; subst hu; rfl) _ rfl rfl hlen hmx hsz ?_; intro g' cap' w' h1 h2 h3; have G1 := Kp.mk h1; have G2 := Kp.mk (grown_bel HOW.out hsz h2); clear h1 h2 h3)
      go_ret
      refine ⟨_, rfl, ?_, HB.out.trans G2.out⟩
      rw [HEND.out, List.length_append, svH_snoc]
      exact G1.out
/-! ### Of -/
/-- The parts of the first k values. -/
def lnP (V : List ByteArray) (k : Nat) : List ByteArray := (V.take k).flatMap lnK
theorem lnP_step {V : List ByteArray} {k : Nat} (h : k < V.length) : lnP V (k + 1) = lnP V k ++ lnK V[k] := by
  unfold lnP
  rw [List.take_succ_eq_append_getElem h, List.flatMap_append]
  simp
theorem lnP_all {V : List ByteArray} {k : Nat} (h : V.length ≤ k) : lnP V k = V.flatMap lnK := by unfold lnP; rw [List.take_of_length_le h]
theorem lnP_len {V : List ByteArray} {m : Nat} (hz : ∀ s ∈ V, s.size ≤ m) : ∀ k, (lnP V k).length ≤ k * (m + 1)
  | 0 => by unfold lnP; simp
  | k + 1 => by
    have h1 := lnP_len hz k
    have hsc : (k + 1) * (m + 1) = k * (m + 1) + (m + 1) := Nat.succ_mul ..
    by_cases h : k < V.length
    · rw [lnP_step h, List.length_append]
      have h2 := lnK_len V[k]
      have h3 := hz V[k] (List.getElem_mem h)
      omega
    · have e : lnP V (k + 1) = lnP V k := by rw [lnP_all (k := k + 1) (by omega), lnP_all (by omega)]
      rw [e]; omega
def lnV (V : List ByteArray) : List ByteArray := V.flatMap lnK
theorem lnV_all {V : List ByteArray} {k : Nat} (h : V.length ≤ k) : lnP V k = lnV V := lnP_all h
theorem lnV_len {V : List ByteArray} {m : Nat} (hz : ∀ s ∈ V, s.size ≤ m) : (lnV V).length ≤ V.length * (m + 1) := by
  have := lnP_len hz V.length
  rwa [lnV_all (Nat.le_refl _)] at this
theorem lnP_pre (V : List ByteArray) (k : Nat) : lnP V k <+: lnV V := by
  have e : V = V.take k ++ V.drop k := (List.take_append_drop k V).symm
  unfold lnP lnV
  conv => rhs; rw [e]
  rw [List.flatMap_append]
  exact List.prefix_append _ _
theorem lnP_in {V : List ByteArray} {k j : Nat} (h : k < V.length) : lnP V k ++ (lnK V[k]).take j <+: lnV V := by
  refine List.IsPrefix.trans ?_ (lnP_pre V (k + 1))
  rw [lnP_step h]
  exact (List.prefix_append_right_inj _).2 (List.take_prefix _ _)
theorem trM_take {L : List ByteArray} {j : Nat} (h : j < L.length) : (trM L).take (j + 1) = (trM L).take j ++ [trimB L[j]] := by
  unfold trM
  rw [List.take_succ_eq_append_getElem (by rw [List.length_map]; exact h), List.getElem_map]
theorem lnV_mem {V : List ByteArray} (hz : ∀ s ∈ V, s.size ≤ 100000) {x : ByteArray} (h : x ∈ lnV V) : x.size ≤ 100000 := by
  obtain ⟨s, hs, hx⟩ := List.mem_flatMap.1 h
  exact Nat.le_trans (lnK_mem hx) (hz s hs)
end Go.Proofs.YtkfpioadimkogaaGreatDoor
