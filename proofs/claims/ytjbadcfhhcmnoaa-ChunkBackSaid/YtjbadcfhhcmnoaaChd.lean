/- Lines that begin chunks: the law ChunkBack (layer 14). -/
import Derived.Test.YtjbadcfhhcmnoaaChc
import Derived.Test.YtjbadcfhhcmnoaaLaw2
namespace Go.Proofs.Ytjbadcfhhcmnoaa
open Go.RowKit
set_option linter.unusedVariables false
set_option linter.unusedSimpArgs false

def tot (l : List Int) : Int := l.foldr (· + ·) 0
theorem tot_cons (x : Int) (l : List Int) : tot (x :: l) = x + tot l := rfl
theorem tot_append (l m : List Int) : tot (l ++ m) = tot l + tot m := by
  induction l with
  | nil => simp [tot]
  | cons x l ih => rw [List.cons_append, tot_cons, tot_cons, ih]; omega
theorem tot_take (l : List Int) (k : Nat) (h : k < l.length) : tot (l.take (k + 1)) = tot (l.take k) + l[k] := by
  rw [List.take_succ_eq_append_getElem h, tot_append]; simp [tot]
theorem tot_nn : ∀ l : List Int, (∀ x ∈ l, 1 ≤ x) → 0 ≤ tot l
  | [], _ => by simp [tot]
  | x :: l, h => by
    have h1 := h x (by simp)
    have h2 := tot_nn l fun y hy => h y (by simp [hy])
    rw [tot_cons]; omega
theorem tot_part (l : List Int) (k : Nat) (h : ∀ x ∈ l, 1 ≤ x) : 0 ≤ tot (l.take k) ∧ tot (l.take k) ≤ tot l := by
  have e := tot_append (l.take k) (l.drop k)
  rw [List.take_append_drop] at e
  have h1 := tot_nn (l.take k) fun x hx => h x (List.mem_of_mem_take hx)
  have h2 := tot_nn (l.drop k) fun x hx => h x (List.mem_of_mem_drop hx)
  omega
theorem szL_all (each : Nat) (he : 1 ≤ each) : ∀ (f n : Nat), 1 ≤ n → n < f → tot (szL each f n) = n ∧ ∀ x ∈ szL each f n, 1 ≤ x ∧ x ≤ (each : Int)
  | 0, _, _, h => by omega
  | f + 1, n, h1, h => by
    unfold szL
    split
    · obtain ⟨i1, i2⟩ := szL_all each he f (n - each) (by omega) (by omega)
      refine ⟨by rw [tot_cons, i1]; omega, fun x hx => ?_⟩
      rcases List.mem_cons.1 hx with rfl | hx
      · omega
      · exact i2 x hx
    · exact ⟨by simp [tot], fun x hx => by simp at hx; omega⟩
theorem sizesL_all (N : Nat) (each : Int) : (tot (sizesL N each) = N ∨ (each < 1 ∧ 1 ≤ N ∧ sizesL N each = []) ∨ 1048576 < N) ∧ (∀ x ∈ sizesL N each, 1 ≤ x ∧ x ≤ each) ∧ (sizesL N each).length ≤ N + 1 := by
  unfold sizesL
  by_cases h : (N : Int) < 1 ∨ 1048576 < (N : Int) ∨ each < 1
  · rw [if_pos h]
    refine ⟨?_, (fun x hx => by simp at hx), by simp⟩
    by_cases h0 : N = 0
    · left; subst h0; rfl
    · by_cases h1 : 1048576 < N
      · exact .inr (.inr h1)
      · exact .inr (.inl ⟨by omega, by omega, rfl⟩)
  · rw [if_neg h]
    obtain ⟨E, rfl⟩ : ∃ E : Nat, each = E := ⟨each.toNat, by omega⟩
    obtain ⟨i1, i2⟩ := szL_all E (by omega) (N + 1) N (by omega) (by omega)
    have e : szL (E : Int).toNat ((N : Int).toNat + 1) (N : Int).toNat = szL E (N + 1) N := by simp
    rw [e]
    exact ⟨.inl i1, i2, szL_len E (by omega) (N + 1) N (by omega)⟩
theorem ext_last (H t : ByteArray) : (H ++ t).extract ((H ++ t).size - t.size) (H ++ t).size = t ∧ (H ++ t).extract 0 ((H ++ t).size - t.size) = H := by
  have e : (H ++ t).size - t.size = H.size := by rw [ByteArray.size_append]; omega
  rw [e]
  refine ⟨ba_ext ?_, ba_ext ?_⟩
  · rw [Lib.extract_to_end, app_list, ba_size]; simp
  · rw [Lib.extract_data, app_list, ba_size]; simp
theorem line_parts (N : Nat) (hN : N ≤ 2000) : ∃ s H : ByteArray, lineS N = s ∧ 3 ≤ s.size ∧ s.size ≤ 22 ∧ s.extract (s.size - 2) s.size = ⟨#[13, 10]⟩ ∧ s.extract 0 (s.size - 2) = H ∧ H.size ≤ 22 ∧ chkV H = N ∧ chkE H = 0 := by
  have hx : hexL (N : Int) = wdig 16 1 N := by unfold hexL; rw [if_neg (by omega)]; simp
  have hl : lineS (N : Int) = ofL (wdig 16 1 N) ++ ⟨#[13, 10]⟩ := by unfold lineS; rw [if_neg (by omega), hx]
  have h2 : (⟨#[13, 10]⟩ : ByteArray).size = 2 := rfl
  have hz : (ofL (wdig 16 1 N)).size = (wdig 16 1 N).length := ofL_size _
  have hlen := wdig_len 16 1 N
  have hne : 1 ≤ (wdig 16 1 N).length := by
    have := wdig_ne 16 1 N (by omega)
    rcases hq : wdig 16 1 N with _ | ⟨c, r⟩
    · exact absurd hq this
    · simp
  have hs : (ofL (wdig 16 1 N) ++ ⟨#[13, 10]⟩ : ByteArray).size = (wdig 16 1 N).length + 2 := by rw [ByteArray.size_append, hz, h2]
  obtain ⟨x1, x2⟩ := ext_last (ofL (wdig 16 1 N)) ⟨#[13, 10]⟩
  rw [h2] at x1 x2
  refine ⟨_, ofL (wdig 16 1 N), hl, by omega, by omega, x1, x2, by omega, ?_⟩
  have hd : (ofL (wdig 16 1 N)).data.toList = wdig 16 1 N := by simp [ofL]
  have hpre : preN hexN (ofL (wdig 16 1 N)) = (ofL (wdig 16 1 N)).size := by
    refine preN_of (Nat.le_refl _) (fun j hj => ?_) (.inl rfl)
    rw [← bt_list _ j hj]
    have hmem : ∀ c ∈ (ofL (wdig 16 1 N)).data.toList, digV c.toNat < 16 := fun c hc => wdig_ok 16 1 N (by omega) (by omega) c (by rw [← hd]; exact hc)
    unfold hexN
    exact decide_eq_true (hmem _ (List.getElem_mem _))
  have hok : chkOk (ofL (wdig 16 1 N)) = true := by
    unfold chkOk
    rw [hpre, parsL_end (by rw [fromB_size]; omega) _ (by omega)]
    simp; omega
  obtain ⟨y1, y2⟩ := chk_yes (s := ofL (wdig 16 1 N)) (by omega) hok
  have hb := (num_back 16 1 N 2147483647 (by omega) (by omega) (by omega) (by omega)).1 (by omega)
  rw [y1, y2, hpre, upB_all]
  exact ⟨hb.1, hb.2⟩

set_option maxRecDepth 100000 in
set_option maxHeartbeats 4000000 in
theorem cback14_walk (n each : Int) (w : World) (wn : (Lit.int .i64 n).wf = true) (we : (Lit.int .i64 each).wf = true) :
    Calls Try.prog 14 #[.int .i64 n, .int .i64 each] w fun e w' => e = .returned (.bool true) ∧ Below w.heap.size w w' := by
  obtain ⟨n0, n1⟩ := bounds_i64 wn
  obtain ⟨e0, e1⟩ := bounds_i64 we
  clear wn we
  by_cases hbad : n < 0 ∨ 2000 < n
  · rcases (show n < 0 ∨ (0 ≤ n ∧ 2000 < n) by omega) with h | ⟨h, h'⟩
    all_goals
      clear hbad
      go_enter Try.func14, Try.ntmps14
      go_wp2_with fail
      refine (lives14_any _).mono ?_
      rintro e w3 ⟨rfl, hb3⟩
      go_wp2_with fail
      go_ret
      exact ⟨rfl, hb3⟩
  · obtain ⟨N, rfl⟩ : ∃ N : Nat, n = N := ⟨n.toNat, by omega⟩
    have hN : N ≤ 2000 := by omega
    clear hbad n0 n1
    obtain ⟨s, H, hl, hs3, hs22, hx, hx0, hH, hv, hee⟩ := line_parts N hN
    obtain ⟨hall, hel, hll⟩ := sizesL_all N each
    have HLn := Hd.mk hl
    have HX0 := Hd.mk hx0
    have HV := Hd.mk hv
    have HE := Hd.mk hee
    have HALL := Hd.mk hall
    have HEL := Hd.mk hel
    have hup : (s.extract 0 (s.size - 2)).size ≤ 100 := by rw [hx0]; omega
    clear hl hx0 hv hee hall hel
    go_enter Try.func14, Try.ntmps14
    go_wp2_with fail
    refine (line_any _ _ (by omega) (by omega)).mono ?_
    rintro e w1 ⟨rfl, hb1⟩
    rw [HLn.out]
    go_wp2_with fail
    refine (chk_parse _ _ (by omega)).mono ?_
    rintro e w2 ⟨rfl, hb2⟩
    rw [HX0.out, HV.out, HE.out]
    have HB2 := Hd.mk (below_thn hb1 hb2)
    clear hb1 hb2
    go_wp2_with fail
    refine (sizes_any (N : Int) each _ (by omega) (by omega) (by omega) (by omega)).mono ?_
    rintro e w3 ⟨v3, rfl, ho3, hb3⟩
    have HB3 := Hd.mk (below_thn HB2.out hb3)
    have hrd := RdI.of_own ho3
    clear ho3 hb3
    generalize sizesL (N : Int) each = l at *
    have hform : ∃ a c, v3 = .slice a l.length c ∧ (0 < l.length → ∃ g, a = some ⟨g, 0, none⟩ ∧ l.length ≤ c ∧ ∀ (j : Nat) (h : j < l.length), w3.cell? ⟨g, j, none⟩ = some (.int .i64 l[j])) := by
      rcases hrd with ⟨rfl, rfl⟩ | ⟨g, cap, rfl, h, _, hc⟩
      · exact ⟨none, 0, rfl, fun h => by simp at h⟩
      · exact ⟨_, cap, rfl, fun _ => ⟨g, rfl, h, hc⟩⟩
    obtain ⟨a, c, rfl, hg⟩ := hform
    have HG := Hd.mk hg
    have HPT := Hd.mk fun k => tot_part l k fun x hx => (HEL.out x hx).1
    have htl : tot l ≤ 2000 := by
      rcases HALL.out with h | ⟨_, _, h⟩ | h
      · omega
      · rw [h]; simp [tot]
      · omega
    clear hrd hg
    go_wp2_with fail
    go_loop [8, 44] (fun t i => ∃ k : Nat, k ≤ l.length ∧ i = .int .i64 k ∧ t = .int .i64 (tot (l.take k))) (fun _ i => l.length - (intOf i).toNat)
    case atStart => exact ⟨0, by omega, rfl, rfl⟩
    case round =>
      obtain ⟨k, hk, rfl, rfl⟩ := hrel
      by_cases hlt : k < l.length
      · obtain ⟨g, rfl, hc1, hc2⟩ := HG.out (by omega)
        have hcell := hc2 k hlt
        have hx := HEL.out l[k] (List.getElem_mem hlt)
        have hp := HPT.out k
        have hp2 := HPT.out (k + 1)
        have HTT := Hd.mk (tot_take l k hlt)
        rw [HTT.out] at hp2
        obtain ⟨q1, q2⟩ := hx
        obtain ⟨q3, q4⟩ := hp
        obtain ⟨q5, q6⟩ := hp2
        have i0 : (0 : Int) ≤ (k : Int) := by omega
        have i1 : (k : Int) < (l.length : Int) := by omega
        obtain ⟨y, hy⟩ : ∃ y, y = l[k] := ⟨_, rfl⟩
        rw [← hy] at hcell q1 q2 q5 q6
        have HY := Hd.mk hy
        obtain ⟨tk, htk⟩ : ∃ tk, tk = tot (l.take k) := ⟨_, rfl⟩
        rw [← htk] at q3 q4 q5 q6 ⊢
        have HTK := Hd.mk htk
        clear hc2 hy htk
        go_wp2_with fail
        go_round
        case rel => exact ⟨k + 1, by omega, by go_num, by rw [HTT.out, ← HY.out, ← HTK.out]⟩
        case measure => simp [intOf]; omega
      · have hke : l.take k = l := List.take_of_length_le (by omega)
        rw [hke]
        clear hke
        rcases HALL.out with h | ⟨h1, h2, h3⟩ | h
        · rw [h]
          clear h
          go_wp2_with fail
          refine (lives14_any _).mono ?_
          rintro e w4 ⟨rfl, hb4⟩
          go_wp2_with fail
          go_ret
          exact ⟨by first | rfl | exact ret_bool (by simp), below_thn HB3.out hb4⟩
        · have ht0 : tot l = 0 := by rw [h3]; rfl
          rw [ht0]
          have hne : ((0 : Int) == (N : Int)) = false := by rw [beq_eq_false_iff_ne]; omega
          clear h3 ht0
          go_wp2_with fail
          refine (lives14_any _).mono ?_
          rintro e w4 ⟨rfl, hb4⟩
          go_wp2_with fail
          go_ret
          exact ⟨by first | rfl | exact ret_bool (by simp), below_thn HB3.out hb4⟩
        · omega
end Go.Proofs.Ytjbadcfhhcmnoaa
