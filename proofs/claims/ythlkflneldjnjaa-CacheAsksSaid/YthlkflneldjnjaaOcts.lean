/- Layer 1: Trim, as the document's answer has it. -/
import Derived.Test.YthlkflneldjnjaaOctr
import Derived.Test.YthlkflneldjnjaaPb
namespace Go.Proofs.Ythlkflneldjnjaa
open Go.RowKit
set_option linter.unusedVariables false
set_option linter.unusedSimpArgs false

set_option maxHeartbeats 400000 in
theorem ref_trim_any (s : ByteArray) (w : World) (hs : s.size ≤ maxLen) :
    Calls Try.prog 68 #[.string s] w fun e w' => e = .returned (.string (trimB s)) ∧ w = w' := by
  unfold maxLen at hs
  go_enter Try.func68, Try.ntmps68
  go_wp2
  go_loop [0] (fun v => ∃ (x : ByteArray) (p : List UInt8), v = .string x ∧ s.data.toList = p ++ x.data.toList ∧ ∀ c ∈ p, blankC c = true) (fun v => szOf v)
  case atStart => exact ⟨s, [], rfl, rfl, by simp⟩
  case round =>
    obtain ⟨x, p, rfl, hx, hp⟩ := hrel
    have hxs : x.size ≤ s.size := by rw [ba_size, ba_size, hx]; simp
    have HX := Lib.hid hx
    have HP := Lib.hid hp
    clear hx hp
    by_cases hgo : ∃ c r, x.data.toList = c :: r ∧ blankC c = true
    · obtain ⟨c, r, hl, hc⟩ := hgo
      have h0 : 0 < x.size := by rw [ba_len hl]; simp
      have hb := bt_cons hl
      rw [← bt_at x 0 h0] at hb
      have he : (x.extract 1 x.size).data.toList = r := by rw [Lib.extract_to_end, hl]; rfl
      have hes : (x.extract 1 x.size).size < x.size := by rw [ba_len he, ba_len hl]; simp
      have HE := Lib.hid he
      have HLx := Lib.hid hl
      have HC := Lib.hid hc
      have HES := Lib.hid hes
      clear hl he hes
      simp [blankC, blankN] at hc
      rcases hc with hc | hc
      · have h1 : ((x[0].toNat : Int) == 32) = true := by rw [hb, hc]; rfl
        clear hb hc
        go_wp2
        go_round
        case rel => exact ⟨_, p ++ [c], rfl, by rw [HE.out, HX.out, HLx.out]; simp, fun d hd => (List.mem_append.1 hd).elim (HP.out d) (fun h => by rw [List.mem_singleton.1 h]; exact HC.out)⟩
        case measure => exact HES.out
      · have h1 : ((x[0].toNat : Int) == 32) = false := by rw [hb, hc]; rfl
        have h2 : ((x[0].toNat : Int) == 9) = true := by rw [hb, hc]; rfl
        clear hb hc
        go_wp2
        go_round
        case rel => exact ⟨_, p ++ [c], rfl, by rw [HE.out, HX.out, HLx.out]; simp, fun d hd => (List.mem_append.1 hd).elim (HP.out d) (fun h => by rw [List.mem_singleton.1 h]; exact HC.out)⟩
        case measure => exact HES.out
    · have hex : x.data.toList = [] ∨ ∃ c r, x.data.toList = c :: r ∧ blankC c = false := by
        cases hl : x.data.toList with
        | nil => exact .inl rfl
        | cons c r =>
          cases hc : blankC c
          · exact .inr ⟨c, r, rfl, hc⟩
          · exact absurd ⟨c, r, hl, hc⟩ hgo
      have HEX := Lib.hid hex
      clear hgo
      have hcase : x.size = 0 ∨ ∃ h : 0 < x.size, ((x[0].toNat : Int) == 32) = false ∧ ((x[0].toNat : Int) == 9) = false := by
        rcases hex with hl | ⟨c, r, hl, hc⟩
        · left; rw [ba_len hl]; rfl
        · right
          have h0 : 0 < x.size := by rw [ba_len hl]; simp
          have hb := bt_cons hl
          rw [← bt_at x 0 h0] at hb
          simp [blankC, blankN] at hc
          refine ⟨h0, ?_, ?_⟩ <;> (rw [hb]; simp; omega)
      clear hex
      rcases hcase with h0 | ⟨h0, h1, h2⟩
      all_goals
        go_wp2
        go_loop [0] (fun v => ∃ (y : ByteArray) (q : List UInt8), v = .string y ∧ x.data.toList = y.data.toList ++ q ∧ ∀ c ∈ q, blankC c = true) (fun v => szOf v)
        case atStart => exact ⟨x, [], rfl, by simp, by simp⟩
        case round =>
          obtain ⟨y, q, rfl, hy, hq⟩ := hrel
          have hys : y.size ≤ x.size := by rw [ba_size, ba_size, hy]; simp
          have HY := Lib.hid hy
          have HQ := Lib.hid hq
          clear hy hq
          by_cases hgo : ∃ r c, y.data.toList = r ++ [c] ∧ blankC c = true
          · obtain ⟨r, c, hl, hc⟩ := hgo
            have g0 : 0 < y.size := by rw [ba_len hl]; simp
            have hb := bt_snoc hl
            rw [← bt_at y (y.size - 1) (by omega)] at hb
            have he : (y.extract 0 (y.size - 1)).data.toList = r := by rw [Lib.extract_data, hl, ba_len hl]; simp
            have hes : (y.extract 0 (y.size - 1)).size < y.size := by rw [ba_len he, ba_len hl]; simp
            have HE := Lib.hid he
            have HLx := Lib.hid hl
            have HC := Lib.hid hc
            have HES := Lib.hid hes
            clear hl he hes
            simp [blankC, blankN] at hc
            rcases hc with hc | hc
            · have e1 : ((y[y.size - 1].toNat : Int) == 32) = true := by rw [hb, hc]; rfl
              clear hb hc
              go_wp2
              all_goals go_round
              all_goals try case rel => exact ⟨_, c :: q, rfl, by rw [HE.out, HY.out, HLx.out]; simp, fun d hd => (List.mem_cons.1 hd).elim (fun h => by rw [h]; exact HC.out) (HQ.out d)⟩
              all_goals exact HES.out
            · have e1 : ((y[y.size - 1].toNat : Int) == 32) = false := by rw [hb, hc]; rfl
              have e2 : ((y[y.size - 1].toNat : Int) == 9) = true := by rw [hb, hc]; rfl
              clear hb hc
              go_wp2
              all_goals go_round
              all_goals try case rel => exact ⟨_, c :: q, rfl, by rw [HE.out, HY.out, HLx.out]; simp, fun d hd => (List.mem_cons.1 hd).elim (fun h => by rw [h]; exact HC.out) (HQ.out d)⟩
              all_goals exact HES.out
          · have hey : y.data.toList = [] ∨ ∃ r c, y.data.toList = r ++ [c] ∧ blankC c = false := by
              rcases List.eq_nil_or_concat y.data.toList with h | ⟨r, c, h⟩
              · exact .inl h
              · cases hc : blankC c
                · exact .inr ⟨r, c, by rw [h, List.concat_eq_append], hc⟩
                · exact absurd ⟨r, c, by rw [h, List.concat_eq_append], hc⟩ hgo
            have HEY := Lib.hid hey
            clear hgo
            have hfin : y = trimB s := by
              refine ba_eq _ _ ?_
              have ht : Tidy y.data.toList := by
                rcases HEY.out with h | ⟨r, c, h, hc⟩
                · exact .inl h
                · right
                  refine ⟨?_, r, c, h, hc⟩
                  rcases HEX.out with h' | ⟨c', r', h', hc'⟩
                  · rw [HY.out, h] at h'; simp at h'
                  · rw [HY.out] at h'
                    cases hT : y.data.toList with
                    | nil => rw [hT] at h; simp at h
                    | cons a b => rw [hT] at h'; simp at h'; obtain ⟨rfl, _⟩ := h'; exact ⟨a, b, rfl, hc'⟩
              rw [HX.out, HY.out, ← List.append_assoc]
              exact (trimL_of HP.out HQ.out ht).symm
            have HF := Lib.hid hfin
            clear hfin
            have hcase2 : y.size = 0 ∨ ∃ h : 0 < y.size, ((y[y.size - 1].toNat : Int) == 32) = false ∧ ((y[y.size - 1].toNat : Int) == 9) = false := by
              rcases hey with hl | ⟨r, c, hl, hc⟩
              · left; rw [ba_len hl]; rfl
              · right
                have g0 : 0 < y.size := by rw [ba_len hl]; simp
                have hb := bt_snoc hl
                rw [← bt_at y (y.size - 1) (by omega)] at hb
                simp [blankC, blankN] at hc
                refine ⟨g0, ?_, ?_⟩ <;> (rw [hb]; simp; omega)
            clear hey
            rcases hcase2 with g0 | ⟨g0, e1, e2⟩
            all_goals
              go_wp2
            all_goals
              go_ret
              exact ⟨ret_str HF.out, rfl⟩
end Go.Proofs.Ythlkflneldjnjaa
