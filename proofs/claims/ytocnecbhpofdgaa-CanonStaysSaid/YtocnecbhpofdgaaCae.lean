/- Heads in one form (layer 50): the reference's Name (bin/mkcae.py). -/
import Derived.Test.YtocnecbhpofdgaaCad
namespace Go.Proofs.Ytocnecbhpofdgaa
open Go.RowKit
set_option linter.unusedVariables false
set_option linter.unusedSimpArgs false

set_option maxRecDepth 100000 in
set_option maxHeartbeats 1000000 in
theorem rname_any (s : ByteArray) (w : World) (hs : s.size ≤ 1000000) :
    Calls Try.prog 50 #[.string s] w fun e w' => e = .returned (.string (nameB s)) ∧ Below w.heap.size w w' := by
  have HLO := Kp.mk (ref_lower_any s w (by omega))
  have hln : (lowB s).size = s.size := lowB_size s
  have HNM := Kp.mk (show nameB s = nmL (lowB s) from rfl)
  generalize nameB s = R at *
  generalize lowB s = t at *
  have hts : t.size ≤ 1000000 := by omega
  clear hln hs
  have HX := Kp.mk (show nmL t = if t = sEt then sEtB else if t = sTe then sTeB else if t = sWw then sWwB else if t = sDn then sDnB else capB t from rfl)
  by_cases h9 : t = sEt
  · have HR := Kp.mk (HNM.out.trans (HX.out.trans (if_pos h9)))
    subst h9
    clear HNM HX
    unfold sEt sEtB at *
    go_enter Try.func50, Try.ntmps50
    go_wp2_with fail
    refine HLO.out.mono ?_
    rintro e w1 ⟨rfl, hb1⟩
    go_wp2_with fail
    go_ret
    exact ⟨by rw [HR.out]; rfl, hb1⟩
  · have h1 := h9
    clear h9
    by_cases h9 : t = sTe
    · have HR := Kp.mk (HNM.out.trans (HX.out.trans ((if_neg h1).trans (if_pos h9))))
      subst h9
      clear HNM HX
      unfold sTe sTeB at *
      go_enter Try.func50, Try.ntmps50
      go_wp2_with fail
      refine HLO.out.mono ?_
      rintro e w1 ⟨rfl, hb1⟩
      go_wp2_with fail
      go_ret
      exact ⟨by rw [HR.out]; rfl, hb1⟩
    · have h2 := h9
      clear h9
      by_cases h9 : t = sWw
      · have HR := Kp.mk (HNM.out.trans (HX.out.trans ((if_neg h1).trans ((if_neg h2).trans (if_pos h9)))))
        subst h9
        clear HNM HX
        unfold sWw sWwB at *
        go_enter Try.func50, Try.ntmps50
        go_wp2_with fail
        refine HLO.out.mono ?_
        rintro e w1 ⟨rfl, hb1⟩
        go_wp2_with fail
        go_ret
        exact ⟨by rw [HR.out]; rfl, hb1⟩
      · have h3 := h9
        clear h9
        by_cases h9 : t = sDn
        · have HR := Kp.mk (HNM.out.trans (HX.out.trans ((if_neg h1).trans ((if_neg h2).trans ((if_neg h3).trans (if_pos h9))))))
          subst h9
          clear HNM HX
          unfold sDn sDnB at *
          go_enter Try.func50, Try.ntmps50
          go_wp2_with fail
          refine HLO.out.mono ?_
          rintro e w1 ⟨rfl, hb1⟩
          go_wp2_with fail
          go_ret
          exact ⟨by rw [HR.out]; rfl, hb1⟩
        · have h4 := h9
          clear h9
          have HR := Kp.mk (HNM.out.trans (HX.out.trans ((if_neg h1).trans ((if_neg h2).trans ((if_neg h3).trans (if_neg h4))))))
          have e1 : (t.toList == [101, 116, 97, 103]) = false := by rw [← sEt_tl]; exact ba_tlb h1
          have e2 : (t.toList == [116, 101]) = false := by rw [← sTe_tl]; exact ba_tlb h2
          have e3 : (t.toList == [119, 119, 119, 45, 97, 117, 116, 104, 101, 110, 116, 105, 99, 97, 116, 101]) = false := by rw [← sWw_tl]; exact ba_tlb h3
          have e4 : (t.toList == [100, 110, 116]) = false := by rw [← sDn_tl]; exact ba_tlb h4
          clear h1 h2 h3 h4 HNM HX
          go_enter Try.func50, Try.ntmps50
          go_wp2_with fail
          refine HLO.out.mono ?_
          rintro e w1 ⟨rfl, hb1⟩
          have HB1 := Kp.mk hb1
          clear hb1
          go_wp2_with fail
          go_loopw [4, 5] (fun v i wr => ∃ k : Nat, k ≤ t.size ∧ i = .int .i64 k ∧ wr.ownsRow w1.heap.size 5 1 v ((capB t).data.toList.take k).length (bv ((capB t).data.toList.take k)) ∧ Below w1.heap.size w1 wr) (fun _ i _ => t.size - (intOf i).toNat)
          case atStart => exact ⟨0, by omega, rfl, World.ownsRow_made _ _ 0 (Nat.le_refl _) (by unfold maxLen; omega) rfl, (Below.refl _ _).alloc (Nat.le_refl _) _⟩
          case round =>
            obtain ⟨k, hk, rfl, hown, hbel⟩ := hrel
            have hll : ((capB t).data.toList.take k).length ≤ k := by rw [List.length_take]; omega
            have hsz := hbel.size
            by_cases hlt : k < t.size
            · have HT := Kp.mk (capB_take hlt)
              have HBT := Kp.mk (bt_at t k hlt)
              have HCN := Kp.mk (show capN t k = if (k = 0 ∨ bt t (k - 1) = 45) ∧ 97 ≤ bt t k ∧ bt t k ≤ 122 then bt t k - 32 else bt t k from rfl)
              by_cases hin : 97 ≤ t[k].toNat ∧ t[k].toNat ≤ 122
              · obtain ⟨h5, h6⟩ := hin
                by_cases hk0 : k = 0
                · subst hk0
                  have hc : (t[0].toNat : Int) - 32 = (((capN t 0).toUInt8).toNat : Int) := by rw [capN_u8, HCN.out, if_pos ⟨Or.inl rfl, by rw [← HBT.out]; omega, by rw [← HBT.out]; omega⟩, ← HBT.out]; omega
                  have HC := Kp.mk hc
                  clear hc
                  go_wp2_with (at_builtin; refine app_byte rfl _ _ _ _ rfl Try.underlying91 Try.infoB w1.heap.size _ _ rfl hown (capN t (0)).toUInt8 _ HC.out rfl (by omega) hsz ?_; intro v' w' hown' hb' _)
                  go_roundw
                  case rel => exact ⟨0 + 1, by omega, by go_num, by rw [HT.out]; exact hown', hbel.trans hb'⟩
                  case measure => simp [intOf] <;> omega
                · obtain ⟨k', rfl⟩ : ∃ k', k = k' + 1 := ⟨k - 1, by omega⟩
                  have HB0 := Kp.mk (bt_at t k' (by omega))
                  have hk1 : k' < t.size := by omega
                  by_cases h7 : t[k'].toNat = 45
                  · have hc : (t[k' + 1].toNat : Int) - 32 = (((capN t (k' + 1)).toUInt8).toNat : Int) := by rw [capN_u8, HCN.out, if_pos ⟨Or.inr (by show bt t k' = 45; rw [← HB0.out]; exact h7), by rw [← HBT.out]; omega, by rw [← HBT.out]; omega⟩, ← HBT.out]; omega
                    have HC := Kp.mk hc
                    clear hc
                    go_wp2_with (at_builtin; refine app_byte rfl _ _ _ _ rfl Try.underlying91 Try.infoB w1.heap.size _ _ rfl hown (capN t (k' + 1)).toUInt8 _ HC.out rfl (by omega) hsz ?_; intro v' w' hown' hb' _)
                    go_roundw
                    case rel => exact ⟨k' + 1 + 1, by omega, by go_num, by rw [HT.out]; exact hown', hbel.trans hb'⟩
                    case measure => simp [intOf] <;> omega
                  · have hc : (t[k' + 1].toNat : Int) = (((capN t (k' + 1)).toUInt8).toNat : Int) := by
                      rw [capN_u8, HCN.out, if_neg (fun h => by
                        rcases h.1 with h | h
                        · omega
                        · exact h7 (by rw [HB0.out]; exact h)), ← HBT.out]
                    have h8 : ¬ (t[k'].toNat : Int) = 45 := by omega
                    have h10 : ((t[k'].toNat : Int) == 45) = false := by rw [beq_eq_false_iff_ne]; exact h8
                    have h11 : (t[k'].toNat == 45) = false := by rw [beq_eq_false_iff_ne]; exact h7
                    have HC := Kp.mk hc
                    clear hc
                    go_wp2_with (at_builtin; refine app_byte rfl _ _ _ _ rfl Try.underlying91 Try.infoB w1.heap.size _ _ rfl hown (capN t (k' + 1)).toUInt8 _ HC.out rfl (by omega) hsz ?_; intro v' w' hown' hb' _)
                    go_roundw
                    case rel => exact ⟨k' + 1 + 1, by omega, by go_num, by rw [HT.out]; exact hown', hbel.trans hb'⟩
                    case measure => simp [intOf] <;> omega
              · have hc : (t[k].toNat : Int) = (((capN t k).toUInt8).toNat : Int) := by rw [capN_u8, HCN.out, if_neg (fun h => hin (by rw [HBT.out]; exact h.2)), ← HBT.out]
                have hu' : t[k].toNat < 97 ∨ 122 < t[k].toNat := by omega
                clear hin
                rcases hu' with hu | hu
                all_goals
                  have HC := Kp.mk hc
                  clear hc
                  go_wp2_with (at_builtin; refine app_byte rfl _ _ _ _ rfl Try.underlying91 Try.infoB w1.heap.size _ _ rfl hown (capN t (k)).toUInt8 _ HC.out rfl (by omega) hsz ?_; intro v' w' hown' hb' _)
                  go_roundw
                  case rel => exact ⟨k + 1, by omega, by go_num, by rw [HT.out]; exact hown', hbel.trans hb'⟩
                  case measure => simp [intOf] <;> omega
            · have hcv := own_string (src := 91) (dst := 9) Try.underlying91 Try.underlying5 Try.underlying9 hown
              have HK := Kp.mk (show (capB t).data.toList.take k = (capB t).data.toList from List.take_of_length_le (by rw [← ba_size, capB_size]; omega))
              go_wp2_with fail
              go_ret
              exact ⟨by rw [HR.out, HK.out]; first | rfl | done, HB1.out.trans (hbel.mono HB1.out.size)⟩
end Go.Proofs.Ytocnecbhpofdgaa
