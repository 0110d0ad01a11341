/- Layer 1: what the document's own answers for octets come to. · Layer 1: Trim, as the document's answer has it. · Layer 1: the program's own functions on octets. · Layer 1: Lower, Fold and Trim of the program. · Layer 1: Fold of the program. · Layer 1: Trim of the program. · Layer 1: the document's examples hold. · Layer 1: the walks of the three laws. · Layer 1: the walk of the law OctetKeeps. -/
import Derived.Test.YtcbfhlnnfnpkdaaGreatDoorProg
import Derived.Test.YtcbfhlnnfnpkdaaGreatDoorPb
import Derived.WalkSpells
import Derived.WalkLawsBesides
import Derived.Deep.Light
import Derived.Lib.TrimU
import Derived.Lib.ConvBytes
import Derived.Lib.SliceRun
import Derived.Deep.QuietTactic
import Derived.BigQuiet
import Derived.OpenShut
import Derived.Deep.DeepCutAuto
namespace Go.Proofs.YtcbfhlnnfnpkdaaGreatDoor
open Go.RowKit
set_option linter.unusedVariables false
set_option linter.unusedSimpArgs false



theorem other_cases (n : Int) (h0 : 0 ≤ n) (ho : otherB n.toNat = true) : n < 48 ∨ (58 ≤ n ∧ n < 65) ∨ (91 ≤ n ∧ n < 97) ∨ 123 ≤ n := by
  simp [otherB] at ho; omega
theorem alnum_cases (n : Int) (h0 : 0 ≤ n) (ho : otherB n.toNat = false) : (48 ≤ n ∧ n ≤ 57) ∨ (65 ≤ n ∧ n ≤ 90) ∨ (97 ≤ n ∧ n ≤ 122) := by
  simp [otherB] at ho; omega

set_option maxHeartbeats 400000 in
theorem ref_tchar_any (n : Int) (w : World) (h0 : 0 ≤ n) (h1 : n ≤ 255) :
    Calls Tryz.prog 97 #[.int .u8 n] w fun e w' => e = .returned (.bool (tcharB n.toNat)) ∧ w = w' := by
  by_cases hO : otherB n.toNat = true
  · have hnone := tchar_none n.toNat (by omega) hO
    have HN := Lib.hid hnone
    have ho := other_cases n h0 hO
    clear hnone hO
    rcases ho with ho | ⟨ho, ho'⟩ | ⟨ho, ho'⟩ | ho
    all_goals
      go_enter Tryz.func97, Tryz.ntmps97
      go_wp2
      rw [marksB_eq]
      go_loop [4] (fun i => ∃ k : Nat, k ≤ 15 ∧ i = .int .i64 k ∧ ∀ j, j < k → bt marksB j ≠ n.toNat) (fun i => 15 - (intOf i).toNat)
      case atStart => exact ⟨0, by omega, rfl, fun j h => by omega⟩
      case round =>
        obtain ⟨k, hk, rfl, hf⟩ := hrel
        have HF := Lib.hid hf
        clear hf
        have hsz := marksB_size
        by_cases hlt : k < 15
        · have hb := bt_at marksB k (by rw [marksB_size]; omega)
          have htm := tchar_mark k hlt
          have HB := Lib.hid hb
          have HT := Lib.hid htm
          clear hb htm
          go_wp2
          · have hq : ((marksB[k].toNat : Int) == n) = true := by assumption
            go_ret
            refine ⟨ret_bool ?_, rfl⟩
            have hq2 : bt marksB k = n.toNat := by rw [← HB.out]; simp at hq; omega
            rw [← hq2, HT.out]
          · have hq : ((marksB[k].toNat : Int) == n) = false := by assumption
            go_round
            case rel =>
              refine ⟨k + 1, by omega, by go_num, fun j hj => ?_⟩
              by_cases hjk : j < k
              · exact HF.out j hjk
              · obtain rfl : j = k := by omega
                rw [← HB.out]; simp at hq; omega
            case measure => simp [intOf]; omega
        · go_wp2
          go_ret
          exact ⟨ret_bool (HN.out fun j hj => HF.out j (by omega)).symm, rfl⟩
  · have hO' : otherB n.toNat = false := by simpa using hO
    have ht := tchar_alnum n.toNat (by omega) hO'
    have ho := alnum_cases n h0 hO'
    clear hO hO'
    rw [ht]
    clear ht
    rcases ho with ⟨ho, ho'⟩ | ⟨ho, ho'⟩ | ⟨ho, ho'⟩
    all_goals
      go_enter Tryz.func97, Tryz.ntmps97
      go_wp2
      go_ret
      exact ⟨rfl, rfl⟩

set_option maxHeartbeats 400000 in
theorem ref_token_any (s : ByteArray) (w : World) (hs : s.size ≤ maxLen) :
    Calls Tryz.prog 48 #[.string s] w fun e w' => e = .returned (.bool (tokenB s)) ∧ w = w' := by
  unfold maxLen at hs
  go_enter Tryz.func48, Tryz.ntmps48
  go_wp2
  go_loop [3] (fun i => ∃ k : Nat, k ≤ s.size ∧ i = .int .i64 k ∧ ∀ j, j < k → tcharB (bt s j) = true) (fun i => s.size - (intOf i).toNat)
  case atStart => exact ⟨0, by omega, rfl, fun j h => by omega⟩
  case round =>
    obtain ⟨k, hk, rfl, hf⟩ := hrel
    have HF := Lib.hid hf
    clear hf
    by_cases hlt : k < s.size
    · have hb := bt_at s k hlt
      have HB := Lib.hid hb
      have h255 := bt_lt s k
      rw [← hb] at h255
      clear hb
      go_wp2_with fail
      refine (ref_tchar_any _ _ (by omega) (by omega)).mono ?_
      rintro e w' ⟨rfl, rfl⟩
      rw [Int.toNat_natCast, HB.out]
      cases ht : tcharB (bt s k)
      · go_wp2
        go_ret
        refine ⟨ret_bool ?_, rfl⟩
        rw [tokenB, allB_false k hlt ht]; simp
      · have HT := Lib.hid ht
        clear ht
        go_wp2
        go_round
        case rel =>
          refine ⟨k + 1, by omega, by go_num, fun j hj => ?_⟩
          by_cases hjk : j < k
          · exact HF.out j hjk
          · obtain rfl : j = k := by omega
            exact HT.out
        case measure => simp [intOf]; omega
    · go_wp2
      go_ret
      refine ⟨ret_bool ?_, rfl⟩
      have ha : allB tcharB s = true := allB_true fun j hj => HF.out j (by omega)
      rw [tokenB, ha]
      cases h : s.data.toList with
      | nil => have : s.size = 0 := by (show s.data.size = 0); rw [← Array.length_toList, h]; rfl
               simp [this]
      | cons a l => have : s.size = l.length + 1 := by (show s.data.size = _); rw [← Array.length_toList, h]; rfl
                    simp [this]

set_option maxHeartbeats 400000 in
theorem ref_value_any (s : ByteArray) (w : World) (hs : s.size ≤ maxLen) :
    Calls Tryz.prog 50 #[.string s] w fun e w' => e = .returned (.bool (allB valueB s)) ∧ w = w' := by
  unfold maxLen at hs
  go_enter Tryz.func50, Tryz.ntmps50
  go_wp2
  go_loop [3] (fun i => ∃ k : Nat, k ≤ s.size ∧ i = .int .i64 k ∧ ∀ j, j < k → valueB (bt s j) = true) (fun i => s.size - (intOf i).toNat)
  case atStart => exact ⟨0, by omega, rfl, fun j h => by omega⟩
  case round =>
    obtain ⟨k, hk, rfl, hf⟩ := hrel
    have HF := Lib.hid hf
    clear hf
    by_cases hlt : k < s.size
    · have hb := bt_at s k hlt
      have HB := Lib.hid hb
      clear hb
      go_wp2
      all_goals go_light
      all_goals first
        | (go_round
           case rel =>
             refine ⟨k + 1, by omega, by go_num, fun j hj => ?_⟩
             by_cases hjk : j < k
             · exact HF.out j hjk
             · obtain rfl : j = k := by omega
               rw [← HB.out]; simp [valueB] at *; omega
           case measure => simp [intOf]; omega)
        | (go_ret
           refine ⟨ret_bool ?_, rfl⟩
           rw [allB_false k hlt (by rw [← HB.out]; simp [valueB] at *; omega)])
    · go_wp2
      go_ret
      exact ⟨ret_bool (allB_true fun j hj => HF.out j (by omega)).symm, rfl⟩

set_option maxHeartbeats 400000 in
theorem ref_visible_any (s : ByteArray) (w : World) (hs : s.size ≤ maxLen) :
    Calls Tryz.prog 49 #[.string s] w fun e w' => e = .returned (.bool (visibleB s)) ∧ w = w' := by
  unfold maxLen at hs
  go_enter Tryz.func49, Tryz.ntmps49
  go_wp2
  go_loop [3] (fun i => ∃ k : Nat, k ≤ s.size ∧ i = .int .i64 k ∧ ∀ j, j < k → visB (bt s j) = true) (fun i => s.size - (intOf i).toNat)
  case atStart => exact ⟨0, by omega, rfl, fun j h => by omega⟩
  case round =>
    obtain ⟨k, hk, rfl, hf⟩ := hrel
    have HF := Lib.hid hf
    clear hf
    by_cases hlt : k < s.size
    · have hb := bt_at s k hlt
      have HB := Lib.hid hb
      clear hb
      go_wp2
      all_goals go_light
      all_goals first
        | (go_round
           case rel =>
             refine ⟨k + 1, by omega, by go_num, fun j hj => ?_⟩
             by_cases hjk : j < k
             · exact HF.out j hjk
             · obtain rfl : j = k := by omega
               rw [← HB.out]; simp [visB] at *; omega
           case measure => simp [intOf]; omega)
        | (go_ret
           refine ⟨ret_bool ?_, rfl⟩
           rw [visibleB, allB_false k hlt (by rw [← HB.out]; simp [visB] at *; omega)]; simp)
    · go_wp2
      go_ret
      refine ⟨ret_bool ?_, rfl⟩
      have ha : allB visB s = true := allB_true fun j hj => HF.out j (by omega)
      rw [visibleB, ha]
      cases h : s.data.toList with
      | nil => have : s.size = 0 := by (show s.data.size = 0); rw [← Array.length_toList, h]; rfl
               simp [this]
      | cons a l => have : s.size = l.length + 1 := by (show s.data.size = _); rw [← Array.length_toList, h]; rfl
                    simp [this]

theorem Tryz.infoB : (Tryz.prog.info? 5).map (fun i => (i.zero, i.size, i.bytes)) = some (some (.int .u8 0), 1, 1) := by kernel_rfl

end Go.Proofs.YtcbfhlnnfnpkdaaGreatDoor
namespace Go.Proofs.YtcbfhlnnfnpkdaaGreatDoor
open Go.RowKit
set_option linter.unusedVariables false
set_option linter.unusedSimpArgs false

set_option maxHeartbeats 400000 in
theorem ref_trim_any (s : ByteArray) (w : World) (hs : s.size ≤ maxLen) :
    Calls Tryz.prog 98 #[.string s] w fun e w' => e = .returned (.string (trimB s)) ∧ w = w' := by
  unfold maxLen at hs
  go_enter Tryz.func98, Tryz.ntmps98
  go_wp2
  go_loop [0] (fun v => ∃ (x : ByteArray) (p : List UInt8), v = .string x ∧ s.data.toList = p ++ x.data.toList ∧ ∀ c ∈ p, blankC c = true) (fun v => szOf v)
  case atStart => exact ⟨s, [], rfl, rfl, by simp⟩
  case round =>
    obtain ⟨x, p, rfl, hx, hp⟩ := hrel
    have hxs : x.size ≤ s.size := by rw [ba_size, ba_size, hx]; simp
    have HX := Lib.hid hx
    have HP := Lib.hid hp
    clear hx hp
    by_cases hgo : ∃ c r, x.data.toList = c :: r ∧ blankC c = true
    · obtain ⟨c, r, hl, hc⟩ := hgo
      have h0 : 0 < x.size := by rw [ba_len hl]; simp
      have hb := bt_cons hl
      rw [← bt_at x 0 h0] at hb
      have he : (x.extract 1 x.size).data.toList = r := by rw [Lib.extract_to_end, hl]; rfl
      have hes : (x.extract 1 x.size).size < x.size := by rw [ba_len he, ba_len hl]; simp
      have HE := Lib.hid he
      have HLx := Lib.hid hl
      have HC := Lib.hid hc
      have HES := Lib.hid hes
      clear hl he hes
      simp [blankC, blankN] at hc
      rcases hc with hc | hc
      · have h1 : ((x[0].toNat : Int) == 32) = true := by rw [hb, hc]; rfl
        clear hb hc
        go_wp2
        go_round
        case rel => exact ⟨_, p ++ [c], rfl, by rw [HE.out, HX.out, HLx.out]; simp, fun d hd => (List.mem_append.1 hd).elim (HP.out d) (fun h => by rw [List.mem_singleton.1 h]; exact HC.out)⟩
        case measure => exact HES.out
      · have h1 : ((x[0].toNat : Int) == 32) = false := by rw [hb, hc]; rfl
        have h2 : ((x[0].toNat : Int) == 9) = true := by rw [hb, hc]; rfl
        clear hb hc
        go_wp2
        go_round
        case rel => exact ⟨_, p ++ [c], rfl, by rw [HE.out, HX.out, HLx.out]; simp, fun d hd => (List.mem_append.1 hd).elim (HP.out d) (fun h => by rw [List.mem_singleton.1 h]; exact HC.out)⟩
        case measure => exact HES.out
    · have hex : x.data.toList = [] ∨ ∃ c r, x.data.toList = c :: r ∧ blankC c = false := by
        cases hl : x.data.toList with
        | nil => exact .inl rfl
        | cons c r =>
          cases hc : blankC c
          · exact .inr ⟨c, r, rfl, hc⟩
          · exact absurd ⟨c, r, hl, hc⟩ hgo
      have HEX := Lib.hid hex
      clear hgo
      have hcase : x.size = 0 ∨ ∃ h : 0 < x.size, ((x[0].toNat : Int) == 32) = false ∧ ((x[0].toNat : Int) == 9) = false := by
        rcases hex with hl | ⟨c, r, hl, hc⟩
        · left; rw [ba_len hl]; rfl
        · right
          have h0 : 0 < x.size := by rw [ba_len hl]; simp
          have hb := bt_cons hl
          rw [← bt_at x 0 h0] at hb
          simp [blankC, blankN] at hc
          refine ⟨h0, ?_, ?_⟩ <;> (rw [hb]; simp; omega)
      clear hex
      rcases hcase with h0 | ⟨h0, h1, h2⟩
      all_goals
        go_wp2
        go_loop [0] (fun v => ∃ (y : ByteArray) (q : List UInt8), v = .string y ∧ x.data.toList = y.data.toList ++ q ∧ ∀ c ∈ q, blankC c = true) (fun v => szOf v)
        case atStart => exact ⟨x, [], rfl, by simp, by simp⟩
        case round =>
          obtain ⟨y, q, rfl, hy, hq⟩ := hrel
          have hys : y.size ≤ x.size := by rw [ba_size, ba_size, hy]; simp
          have HY := Lib.hid hy
          have HQ := Lib.hid hq
          clear hy hq
          by_cases hgo : ∃ r c, y.data.toList = r ++ [c] ∧ blankC c = true
          · obtain ⟨r, c, hl, hc⟩ := hgo
            have g0 : 0 < y.size := by rw [ba_len hl]; simp
            have hb := bt_snoc hl
            rw [← bt_at y (y.size - 1) (by omega)] at hb
            have he : (y.extract 0 (y.size - 1)).data.toList = r := by rw [Lib.extract_data, hl, ba_len hl]; simp
            have hes : (y.extract 0 (y.size - 1)).size < y.size := by rw [ba_len he, ba_len hl]; simp
            have HE := Lib.hid he
            have HLx := Lib.hid hl
            have HC := Lib.hid hc
            have HES := Lib.hid hes
            clear hl he hes
            simp [blankC, blankN] at hc
            rcases hc with hc | hc
            · have e1 : ((y[y.size - 1].toNat : Int) == 32) = true := by rw [hb, hc]; rfl
              clear hb hc
              go_wp2
              all_goals go_round
              all_goals try case rel => exact ⟨_, c :: q, rfl, by rw [HE.out, HY.out, HLx.out]; simp, fun d hd => (List.mem_cons.1 hd).elim (fun h => by rw [h]; exact HC.out) (HQ.out d)⟩
              all_goals exact HES.out
            · have e1 : ((y[y.size - 1].toNat : Int) == 32) = false := by rw [hb, hc]; rfl
              have e2 : ((y[y.size - 1].toNat : Int) == 9) = true := by rw [hb, hc]; rfl
              clear hb hc
              go_wp2
              all_goals go_round
              all_goals try case rel => exact ⟨_, c :: q, rfl, by rw [HE.out, HY.out, HLx.out]; simp, fun d hd => (List.mem_cons.1 hd).elim (fun h => by rw [h]; exact HC.out) (HQ.out d)⟩
              all_goals exact HES.out
          · have hey : y.data.toList = [] ∨ ∃ r c, y.data.toList = r ++ [c] ∧ blankC c = false := by
              rcases List.eq_nil_or_concat y.data.toList with h | ⟨r, c, h⟩
              · exact .inl h
              · cases hc : blankC c
                · exact .inr ⟨r, c, by rw [h, List.concat_eq_append], hc⟩
                · exact absurd ⟨r, c, by rw [h, List.concat_eq_append], hc⟩ hgo
            have HEY := Lib.hid hey
            clear hgo
            have hfin : y = trimB s := by
              refine ba_eq _ _ ?_
              have ht : Tidy y.data.toList := by
                rcases HEY.out with h | ⟨r, c, h, hc⟩
                · exact .inl h
                · right
                  refine ⟨?_, r, c, h, hc⟩
                  rcases HEX.out with h' | ⟨c', r', h', hc'⟩
                  · rw [HY.out, h] at h'; simp at h'
                  · rw [HY.out] at h'
                    cases hT : y.data.toList with
                    | nil => rw [hT] at h; simp at h
                    | cons a b => rw [hT] at h'; simp at h'; obtain ⟨rfl, _⟩ := h'; exact ⟨a, b, rfl, hc'⟩
              rw [HX.out, HY.out, ← List.append_assoc]
              exact (trimL_of HP.out HQ.out ht).symm
            have HF := Lib.hid hfin
            clear hfin
            have hcase2 : y.size = 0 ∨ ∃ h : 0 < y.size, ((y[y.size - 1].toNat : Int) == 32) = false ∧ ((y[y.size - 1].toNat : Int) == 9) = false := by
              rcases hey with hl | ⟨r, c, hl, hc⟩
              · left; rw [ba_len hl]; rfl
              · right
                have g0 : 0 < y.size := by rw [ba_len hl]; simp
                have hb := bt_snoc hl
                rw [← bt_at y (y.size - 1) (by omega)] at hb
                simp [blankC, blankN] at hc
                refine ⟨g0, ?_, ?_⟩ <;> (rw [hb]; simp; omega)
            clear hey
            rcases hcase2 with g0 | ⟨g0, e1, e2⟩
            all_goals
              go_wp2
            all_goals
              go_ret
              exact ⟨ret_str HF.out, rfl⟩
end Go.Proofs.YtcbfhlnnfnpkdaaGreatDoor
namespace Go.Proofs.YtcbfhlnnfnpkdaaGreatDoor
open Go.RowKit
set_option linter.unusedVariables false
set_option linter.unusedSimpArgs false

set_option maxHeartbeats 400000 in
theorem oct_tchar_any (n : Int) (w : World) (h0 : 0 ≤ n) (h1 : n ≤ 255) :
    Calls Tryz.prog 92 #[.int .u8 n] w fun e w' => e = .returned (.bool (tcharB n.toNat)) ∧ Below w.heap.size w w' := by
  by_cases hO : otherB n.toNat = true
  · have hnone := tchar_none n.toNat (by omega) hO
    have HN := Lib.hid hnone
    have ho := other_cases n h0 hO
    clear hnone hO
    rcases ho with ho | ⟨ho, ho'⟩ | ⟨ho, ho'⟩ | ho
    all_goals
      go_enter Tryz.func92, Tryz.ntmps92
      go_wp2
      rw [marksB_eq]
      go_loopw [4] (fun _ wr => ∃ k : Nat, k ≤ 15 ∧ wr = w.iter marksB k ∧ ∀ j, j < k → bt marksB j ≠ n.toNat) (fun _ wr => 15 - wr.iterPos w.heap.size)
      case atStart => exact ⟨0, by omega, rfl, fun j h => by omega⟩
      case round =>
        obtain ⟨k, hk, rfl, hf⟩ := hrel
        have HF := Lib.hid hf
        clear hf
        have hsz := marksB_size
        by_cases hlt : k < 15
        · have hb := bt_at marksB k (by rw [marksB_size]; omega)
          have htm := tchar_mark k hlt
          have hlo := marksB_low k hlt
          have HB := Lib.hid hb
          have HT := Lib.hid htm
          have hnx : ∀ ty, (Instr.next (.pointer (some ⟨w.heap.size, 0, none⟩)) true ty).run Tryz.prog (w.iter marksB k) = _ := fun ty => run_next_ascii w marksB k ty (by rw [marksB_size]; omega) (by rw [hb]; exact hlo)
          clear hb htm
          go_wp2
          · have hq : (n == (marksB[k].toNat : Int)) = true := by assumption
            go_ret
            refine ⟨ret_bool ?_, (Below.refl _ _).alloc (Nat.le_refl _) _⟩
            have hq2 : bt marksB k = n.toNat := by rw [← HB.out]; simp at hq; omega
            rw [← hq2, HT.out]
          · have hq : (n == (marksB[k].toNat : Int)) = false := by assumption
            go_roundw
            case rel =>
              refine ⟨k + 1, by omega, rfl, fun j hj => ?_⟩
              by_cases hjk : j < k
              · exact HF.out j hjk
              · obtain rfl : j = k := by omega
                rw [← HB.out]; simp at hq; omega
            case measure => simp; omega
        · have hnx : ∀ ty, (Instr.next (.pointer (some ⟨w.heap.size, 0, none⟩)) true ty).run Tryz.prog (w.iter marksB k) = _ := fun ty => run_next_end w marksB k ty (by rw [marksB_size]; omega)
          go_wp2
          go_ret
          exact ⟨ret_bool (HN.out fun j hj => HF.out j (by omega)).symm, (Below.refl _ _).alloc (Nat.le_refl _) _⟩
  · have hO' : otherB n.toNat = false := by simpa using hO
    have ht := tchar_alnum n.toNat (by omega) hO'
    have ho := alnum_cases n h0 hO'
    clear hO hO'
    rw [ht]
    clear ht
    rcases ho with ⟨ho, ho'⟩ | ⟨ho, ho'⟩ | ⟨ho, ho'⟩
    all_goals
      go_enter Tryz.func92, Tryz.ntmps92
      go_wp2
      go_ret
      exact ⟨rfl, Below.refl _ _⟩

/-! ### What is asked of each rune -/
def runeTok (n : Int) : Bool := decide (n < 128) && tcharB n.toNat
def runeVal (n : Int) : Bool := n == 9 || (decide (32 ≤ n) && n != 127)
def runeVis (n : Int) : Bool := decide (33 ≤ n) && decide (n ≤ 126)

set_option maxHeartbeats 400000 in
theorem fit_tok (n : Int) (w : World) (h0 : 0 ≤ n) (h1 : n ≤ 1114111) :
    Calls Tryz.prog 91 #[.int .i32 n] w fun e w' => e = .returned (.bool (runeTok n)) ∧ Below w.heap.size w w' := by
  by_cases hl : n < 128
  · have hr : runeTok n = tcharB n.toNat := by simp [runeTok, hl]
    rw [hr]
    clear hr
    go_enter Tryz.func91, Tryz.ntmps91
    go_wp2_with (go_at_call 92; refine (oct_tchar_any _ _ (by omega) (by omega)).mono ?_; rintro e w' ⟨rfl, hb⟩)
    go_ret
    exact ⟨rfl, hb⟩
  · have hr : runeTok n = false := by simp [runeTok, hl]
    rw [hr]
    clear hr
    go_enter Tryz.func91, Tryz.ntmps91
    go_wp2
    go_ret
    exact ⟨rfl, Below.refl _ _⟩

set_option maxHeartbeats 400000 in
theorem fit_val (n : Int) (w : World) (h0 : 0 ≤ n) (h1 : n ≤ 1114111) :
    Calls Tryz.prog 94 #[.int .i32 n] w fun e w' => e = .returned (.bool (runeVal n)) ∧ Below w.heap.size w w' := by
  go_enter Tryz.func94, Tryz.ntmps94
  go_wp2
  all_goals go_ret
  all_goals refine ⟨ret_bool ?_, Below.refl _ _⟩
  all_goals go_light
  all_goals (rw [Bool.eq_iff_iff]; simp [runeVal] at *; try omega)

set_option maxHeartbeats 400000 in
theorem fit_vis (n : Int) (w : World) (h0 : 0 ≤ n) (h1 : n ≤ 1114111) :
    Calls Tryz.prog 93 #[.int .i32 n] w fun e w' => e = .returned (.bool (runeVis n)) ∧ Below w.heap.size w w' := by
  go_enter Tryz.func93, Tryz.ntmps93
  go_wp2
  all_goals go_ret
  all_goals refine ⟨ret_bool ?_, Below.refl _ _⟩
  all_goals go_light
  all_goals (rw [Bool.eq_iff_iff]; simp [runeVis] at *; try omega)

theorem runeTok_low (n : Nat) (h : n < 128) : runeTok (n : Int) = tcharB n := by
  have : (n : Int) < 128 := by omega
  simp [runeTok, this]
theorem runeTok_high (n : Nat) (h : 128 ≤ n) : runeTok (n : Int) = false := by
  have : ¬ (n : Int) < 128 := by omega
  simp [runeTok, this]
theorem runeVal_low (n : Nat) (h : n < 128) : runeVal (n : Int) = valueB n := by
  rw [Bool.eq_iff_iff]; simp [runeVal, valueB]; omega
theorem runeVal_high (n : Nat) (h : 128 ≤ n) : runeVal (n : Int) = true := by
  simp [runeVal]; omega
theorem runeVis_low (n : Nat) (h : n < 128) : runeVis (n : Int) = visB n := by
  rw [Bool.eq_iff_iff]; simp [runeVis, visB]; omega
theorem runeVis_high (n : Nat) (h : 128 ≤ n) : runeVis (n : Int) = false := by
  simp [runeVis]; omega
theorem valueB_high (n : Nat) (h : 128 ≤ n) : valueB n = true := by simp [valueB]; omega
theorem visB_high (n : Nat) (h : 128 ≤ n) : visB n = false := by simp [visB]; omega

set_option maxHeartbeats 400000 in
theorem each_tok (s : ByteArray) (w : World) (hs : s.size ≤ maxLen) :
    Calls Tryz.prog 90 #[.string s, .func (.func 91) #[] #[]] w fun e w' => e = .returned (.bool (allB tcharB s)) ∧ Below w.heap.size w w' := by
  unfold maxLen at hs
  go_enter Tryz.func90, Tryz.ntmps90
  go_wp2
  go_loopw [6] (fun _ wr => ∃ pos : Nat, wr.heap[w.heap.size]? = some (.stringIter s pos) ∧ Below w.heap.size w wr ∧ ∀ j, j < pos → j < s.size → tcharB (bt s j) = true) (fun _ wr => s.size - wr.iterPos w.heap.size)
  case atStart => exact ⟨0, World.iter_heap _ _ _, (Below.refl _ _).alloc (Nat.le_refl _) _, fun j h => by omega⟩
  case round =>
    obtain ⟨pos, hit, hbel, hf⟩ := hrel
    have HF := Lib.hid hf
    have HB := Lib.hid hbel
    have HI := Lib.hid hit
    have hmeas : wr.iterPos w.heap.size = pos := by simp [World.iterPos, hit]
    have HM := Lib.hid hmeas
    have hlt0 : w.heap.size < wr.heap.size := (Array.getElem?_eq_some_iff.1 hit).1
    by_cases hlt : pos < s.size
    · have hnx : ∀ ty, (Instr.next (.pointer (some ⟨w.heap.size, 0, none⟩)) true ty).run Tryz.prog wr = _ := fun ty => Lib.run_next_any_at wr w.heap.size s pos ty hit hlt
      have hnew : ∀ p w', Below (wr.iterAt w.heap.size s p).heap.size (wr.iterAt w.heap.size s p) w' → w'.heap[w.heap.size]? = some (.stringIter s p) ∧ Below w.heap.size w w' := by
        intro p w' hb
        have hs1 := Lib.iterAt_size wr w.heap.size s p
        refine ⟨by rw [hb.block _ (by rw [hs1]; exact hlt0)]; exact Lib.iterAt_heap wr _ s pos p hit, ?_⟩
        exact (Lib.below_iterAt hbel (Nat.le_refl _) s p).trans (hb.mono (by rw [hs1]; omega))
      have HN := Lib.hid hnew
      clear hf hbel hit hmeas hnew
      have hd2 := decode_le s pos
      by_cases hlow : bt s pos < 128
      · have hdec := dec_low s pos hlt hlow
        have h127 : bt s pos ≤ 1114111 := by omega
        rw [hdec] at hnx
        clear hdec hd2
        go_wp2_with fail
        refine (fit_tok _ _ (by omega) (by omega)).mono ?_
        rintro e w' ⟨rfl, hb⟩
        rw [runeTok_low _ hlow]
        obtain ⟨hi', hb'⟩ := HN.out _ _ hb
        clear hb
        cases ht : tcharB (bt s pos)
        · go_wp2
          go_ret
          exact ⟨ret_bool (allB_false pos hlt ht).symm, hb'⟩
        · have HT := Lib.hid ht
          clear ht
          go_wp2
          go_roundw
          case rel =>
            refine ⟨pos + 1, hi', hb', fun j hj hj2 => ?_⟩
            by_cases hjk : j < pos
            · exact HF.out j hjk hj2
            · obtain rfl : j = pos := by omega
              exact HT.out
          case measure =>
            rw [HM.out]
            simp [World.iterPos, hi']
            omega
      · have hhi := dec_high s pos hlt (by omega)
        obtain ⟨hh1, hh2, hh3⟩ := hhi
        have HH := Lib.hid hh3
        have hmax : (Utf8.decode s pos).1 ≤ 1114111 := Lib.rune_le s pos
        clear hh3 hd2
        generalize Utf8.decode s pos = d at *
        obtain ⟨r, wd⟩ := d
        dsimp only at *
        go_wp2_with fail
        refine (fit_tok _ _ (by omega) (by omega)).mono ?_
        rintro e w' ⟨rfl, hb⟩
        rw [runeTok_high _ hh1]
        obtain ⟨hi', hb'⟩ := HN.out _ _ hb
        clear hb
        go_wp2
        go_ret
        exact ⟨ret_bool (allB_false pos hlt (tchar_high _ (by omega))).symm, hb'⟩
    · have hnx : ∀ ty, (Instr.next (.pointer (some ⟨w.heap.size, 0, none⟩)) true ty).run Tryz.prog wr = _ := fun ty => Lib.run_next_end_at wr w.heap.size s pos ty hit hlt
      clear hf hbel hit hmeas
      go_wp2
      go_ret
      exact ⟨ret_bool (allB_true fun j hj => HF.out j (by omega) hj).symm, HB.out⟩

set_option maxHeartbeats 400000 in
theorem each_val (s : ByteArray) (w : World) (hs : s.size ≤ maxLen) :
    Calls Tryz.prog 90 #[.string s, .func (.func 94) #[] #[]] w fun e w' => e = .returned (.bool (allB valueB s)) ∧ Below w.heap.size w w' := by
  unfold maxLen at hs
  go_enter Tryz.func90, Tryz.ntmps90
  go_wp2
  go_loopw [6] (fun _ wr => ∃ pos : Nat, wr.heap[w.heap.size]? = some (.stringIter s pos) ∧ Below w.heap.size w wr ∧ ∀ j, j < pos → j < s.size → valueB (bt s j) = true) (fun _ wr => s.size - wr.iterPos w.heap.size)
  case atStart => exact ⟨0, World.iter_heap _ _ _, (Below.refl _ _).alloc (Nat.le_refl _) _, fun j h => by omega⟩
  case round =>
    obtain ⟨pos, hit, hbel, hf⟩ := hrel
    have HF := Lib.hid hf
    have HB := Lib.hid hbel
    have HI := Lib.hid hit
    have hmeas : wr.iterPos w.heap.size = pos := by simp [World.iterPos, hit]
    have HM := Lib.hid hmeas
    have hlt0 : w.heap.size < wr.heap.size := (Array.getElem?_eq_some_iff.1 hit).1
    by_cases hlt : pos < s.size
    · have hnx : ∀ ty, (Instr.next (.pointer (some ⟨w.heap.size, 0, none⟩)) true ty).run Tryz.prog wr = _ := fun ty => Lib.run_next_any_at wr w.heap.size s pos ty hit hlt
      have hnew : ∀ p w', Below (wr.iterAt w.heap.size s p).heap.size (wr.iterAt w.heap.size s p) w' → w'.heap[w.heap.size]? = some (.stringIter s p) ∧ Below w.heap.size w w' := by
        intro p w' hb
        have hs1 := Lib.iterAt_size wr w.heap.size s p
        refine ⟨by rw [hb.block _ (by rw [hs1]; exact hlt0)]; exact Lib.iterAt_heap wr _ s pos p hit, ?_⟩
        exact (Lib.below_iterAt hbel (Nat.le_refl _) s p).trans (hb.mono (by rw [hs1]; omega))
      have HN := Lib.hid hnew
      clear hf hbel hit hmeas hnew
      have hd2 := decode_le s pos
      by_cases hlow : bt s pos < 128
      · have hdec := dec_low s pos hlt hlow
        have h127 : bt s pos ≤ 1114111 := by omega
        rw [hdec] at hnx
        clear hdec hd2
        go_wp2_with fail
        refine (fit_val _ _ (by omega) (by omega)).mono ?_
        rintro e w' ⟨rfl, hb⟩
        rw [runeVal_low _ hlow]
        obtain ⟨hi', hb'⟩ := HN.out _ _ hb
        clear hb
        cases ht : valueB (bt s pos)
        · go_wp2
          go_ret
          exact ⟨ret_bool (allB_false pos hlt ht).symm, hb'⟩
        · have HT := Lib.hid ht
          clear ht
          go_wp2
          go_roundw
          case rel =>
            refine ⟨pos + 1, hi', hb', fun j hj hj2 => ?_⟩
            by_cases hjk : j < pos
            · exact HF.out j hjk hj2
            · obtain rfl : j = pos := by omega
              exact HT.out
          case measure =>
            rw [HM.out]
            simp [World.iterPos, hi']
            omega
      · have hhi := dec_high s pos hlt (by omega)
        obtain ⟨hh1, hh2, hh3⟩ := hhi
        have HH := Lib.hid hh3
        have hmax : (Utf8.decode s pos).1 ≤ 1114111 := Lib.rune_le s pos
        clear hh3 hd2
        generalize Utf8.decode s pos = d at *
        obtain ⟨r, wd⟩ := d
        dsimp only at *
        go_wp2_with fail
        refine (fit_val _ _ (by omega) (by omega)).mono ?_
        rintro e w' ⟨rfl, hb⟩
        rw [runeVal_high _ hh1]
        obtain ⟨hi', hb'⟩ := HN.out _ _ hb
        clear hb
        go_wp2
        go_roundw
        case rel =>
          refine ⟨pos + wd, hi', hb', fun j hj hj2 => ?_⟩
          by_cases hjk : j < pos
          · exact HF.out j hjk hj2
          · exact valueB_high _ (HH.out j (by omega) hj).2
        case measure =>
          rw [HM.out]
          simp [World.iterPos, hi']
          omega
    · have hnx : ∀ ty, (Instr.next (.pointer (some ⟨w.heap.size, 0, none⟩)) true ty).run Tryz.prog wr = _ := fun ty => Lib.run_next_end_at wr w.heap.size s pos ty hit hlt
      clear hf hbel hit hmeas
      go_wp2
      go_ret
      exact ⟨ret_bool (allB_true fun j hj => HF.out j (by omega) hj).symm, HB.out⟩

set_option maxHeartbeats 400000 in
theorem each_vis (s : ByteArray) (w : World) (hs : s.size ≤ maxLen) :
    Calls Tryz.prog 90 #[.string s, .func (.func 93) #[] #[]] w fun e w' => e = .returned (.bool (allB visB s)) ∧ Below w.heap.size w w' := by
  unfold maxLen at hs
  go_enter Tryz.func90, Tryz.ntmps90
  go_wp2
  go_loopw [6] (fun _ wr => ∃ pos : Nat, wr.heap[w.heap.size]? = some (.stringIter s pos) ∧ Below w.heap.size w wr ∧ ∀ j, j < pos → j < s.size → visB (bt s j) = true) (fun _ wr => s.size - wr.iterPos w.heap.size)
  case atStart => exact ⟨0, World.iter_heap _ _ _, (Below.refl _ _).alloc (Nat.le_refl _) _, fun j h => by omega⟩
  case round =>
    obtain ⟨pos, hit, hbel, hf⟩ := hrel
    have HF := Lib.hid hf
    have HB := Lib.hid hbel
    have HI := Lib.hid hit
    have hmeas : wr.iterPos w.heap.size = pos := by simp [World.iterPos, hit]
    have HM := Lib.hid hmeas
    have hlt0 : w.heap.size < wr.heap.size := (Array.getElem?_eq_some_iff.1 hit).1
    by_cases hlt : pos < s.size
    · have hnx : ∀ ty, (Instr.next (.pointer (some ⟨w.heap.size, 0, none⟩)) true ty).run Tryz.prog wr = _ := fun ty => Lib.run_next_any_at wr w.heap.size s pos ty hit hlt
      have hnew : ∀ p w', Below (wr.iterAt w.heap.size s p).heap.size (wr.iterAt w.heap.size s p) w' → w'.heap[w.heap.size]? = some (.stringIter s p) ∧ Below w.heap.size w w' := by
        intro p w' hb
        have hs1 := Lib.iterAt_size wr w.heap.size s p
        refine ⟨by rw [hb.block _ (by rw [hs1]; exact hlt0)]; exact Lib.iterAt_heap wr _ s pos p hit, ?_⟩
        exact (Lib.below_iterAt hbel (Nat.le_refl _) s p).trans (hb.mono (by rw [hs1]; omega))
      have HN := Lib.hid hnew
      clear hf hbel hit hmeas hnew
      have hd2 := decode_le s pos
      by_cases hlow : bt s pos < 128
      · have hdec := dec_low s pos hlt hlow
        have h127 : bt s pos ≤ 1114111 := by omega
        rw [hdec] at hnx
        clear hdec hd2
        go_wp2_with fail
        refine (fit_vis _ _ (by omega) (by omega)).mono ?_
        rintro e w' ⟨rfl, hb⟩
        rw [runeVis_low _ hlow]
        obtain ⟨hi', hb'⟩ := HN.out _ _ hb
        clear hb
        cases ht : visB (bt s pos)
        · go_wp2
          go_ret
          exact ⟨ret_bool (allB_false pos hlt ht).symm, hb'⟩
        · have HT := Lib.hid ht
          clear ht
          go_wp2
          go_roundw
          case rel =>
            refine ⟨pos + 1, hi', hb', fun j hj hj2 => ?_⟩
            by_cases hjk : j < pos
            · exact HF.out j hjk hj2
            · obtain rfl : j = pos := by omega
              exact HT.out
          case measure =>
            rw [HM.out]
            simp [World.iterPos, hi']
            omega
      · have hhi := dec_high s pos hlt (by omega)
        obtain ⟨hh1, hh2, hh3⟩ := hhi
        have HH := Lib.hid hh3
        have hmax : (Utf8.decode s pos).1 ≤ 1114111 := Lib.rune_le s pos
        clear hh3 hd2
        generalize Utf8.decode s pos = d at *
        obtain ⟨r, wd⟩ := d
        dsimp only at *
        go_wp2_with fail
        refine (fit_vis _ _ (by omega) (by omega)).mono ?_
        rintro e w' ⟨rfl, hb⟩
        rw [runeVis_high _ hh1]
        obtain ⟨hi', hb'⟩ := HN.out _ _ hb
        clear hb
        go_wp2
        go_ret
        exact ⟨ret_bool (allB_false pos hlt (visB_high _ (by omega))).symm, hb'⟩
    · have hnx : ∀ ty, (Instr.next (.pointer (some ⟨w.heap.size, 0, none⟩)) true ty).run Tryz.prog wr = _ := fun ty => Lib.run_next_end_at wr w.heap.size s pos ty hit hlt
      clear hf hbel hit hmeas
      go_wp2
      go_ret
      exact ⟨ret_bool (allB_true fun j hj => HF.out j (by omega) hj).symm, HB.out⟩

theorem nonempty_of (s : ByteArray) (h : s.size ≠ 0) : s.data.toList.isEmpty = false := by
  cases hl : s.data.toList with
  | nil => rw [ba_len hl] at h; simp at h
  | cons a r => rfl

theorem tokenB_nil {s : ByteArray} (h : s.toList = []) : false = tokenB s := by
  rw [ByteArray.toList_eq] at h
  simp [tokenB, h]
theorem tokenB_eq (s : ByteArray) : (!s.toList.isEmpty && allB tcharB s) = tokenB s := by rw [tokenB, ByteArray.toList_eq]
theorem visibleB_nil {s : ByteArray} (h : s.toList = []) : false = visibleB s := by
  rw [ByteArray.toList_eq] at h
  simp [visibleB, h]
theorem visibleB_eq (s : ByteArray) : (!s.toList.isEmpty && allB visB s) = visibleB s := by rw [visibleB, ByteArray.toList_eq]

set_option maxHeartbeats 400000 in
theorem oct_token_any (s : ByteArray) (w : World) (hs : s.size ≤ maxLen) :
    Calls Tryz.prog 42 #[.string s] w fun e w' => e = .returned (.bool (tokenB s)) ∧ Below w.heap.size w w' := by
  go_enter Tryz.func42, Tryz.ntmps42
  go_wp2_with (go_at_call 90; refine (each_tok _ _ hs).mono ?_; rintro e w' ⟨rfl, hb⟩)
  · go_ret
    exact ⟨ret_bool (tokenB_nil ‹_›), Below.refl _ _⟩
  · go_ret
    exact ⟨ret_bool (tokenB_eq s), hb⟩

set_option maxHeartbeats 400000 in
theorem oct_value_any (s : ByteArray) (w : World) (hs : s.size ≤ maxLen) :
    Calls Tryz.prog 44 #[.string s] w fun e w' => e = .returned (.bool (allB valueB s)) ∧ Below w.heap.size w w' := by
  go_enter Tryz.func44, Tryz.ntmps44
  go_wp2_with (go_at_call 90; refine (each_val _ _ hs).mono ?_; rintro e w' ⟨rfl, hb⟩)
  go_ret
  exact ⟨rfl, hb⟩

set_option maxHeartbeats 400000 in
theorem oct_visible_any (s : ByteArray) (w : World) (hs : s.size ≤ maxLen) :
    Calls Tryz.prog 43 #[.string s] w fun e w' => e = .returned (.bool (visibleB s)) ∧ Below w.heap.size w w' := by
  go_enter Tryz.func43, Tryz.ntmps43
  go_wp2_with (go_at_call 90; refine (each_vis _ _ hs).mono ?_; rintro e w' ⟨rfl, hb⟩)
  · go_ret
    exact ⟨ret_bool (visibleB_nil ‹_›), Below.refl _ _⟩
  · go_ret
    exact ⟨ret_bool (visibleB_eq s), hb⟩
end Go.Proofs.YtcbfhlnnfnpkdaaGreatDoor
namespace Go.Proofs.YtcbfhlnnfnpkdaaGreatDoor
open Go.RowKit
set_option linter.unusedVariables false
set_option linter.unusedSimpArgs false

theorem bytesWorld_frozen (w : World) (e : TypeId) (s : ByteArray) (j : Nat) (hj : j < s.size) : (Lib.bytesWorld w e s).frozen? ⟨w.heap.size, j, none⟩ = false := by
  have h1 : s.size ≤ (Lib.bytesCells w e s).size := by simp [Lib.bytesCells]
  simp [World.frozen?, Lib.bytesWorld_at_new]
  omega
theorem bytesWorld_below (w : World) (e : TypeId) (s : ByteArray) : Below w.heap.size w (Lib.bytesWorld w e s) :=
  ⟨by simp [Lib.bytesWorld, World.freeze, World.alloc, World.drew, -World.alloc_eq, -World.drew_eq], by simp [Lib.bytesWorld, World.freeze, World.alloc, World.drew, -World.alloc_eq, -World.drew_eq], by simp [Lib.bytesWorld, World.freeze, World.alloc, World.drew, -World.alloc_eq, -World.drew_eq], by rw [Lib.bytesWorld_size]; omega, fun k hk => Lib.bytesWorld_at_old w e s k hk⟩

/-- The octets of s, the first p of them small, stand in block g. -/
structure LowRow (s : ByteArray) (p g : Nat) (wr : World) : Prop where
  cell : ∀ j, j < s.size → wr.cell? ⟨g, j, none⟩ = some (.int .u8 ((if j < p then lowN (bt s j) else bt s j : Nat) : Int))
  free : ∀ j, j < s.size → wr.frozen? ⟨g, j, none⟩ = false
  lt : g < wr.heap.size

theorem LowRow.made (s : ByteArray) (p : Nat) (w : World) (e : TypeId) (h : ∀ j, j < p → j < s.size → lowN (bt s j) = bt s j) : LowRow s p w.heap.size (Lib.bytesWorld w e s) := by
  refine ⟨fun j hj => ?_, fun j hj => bytesWorld_frozen w e s j hj, by rw [Lib.bytesWorld_size]; omega⟩
  rw [Lib.bytesWorld_cell w e s j hj]
  have e1 : (s.data.toList.getD j 0).toNat = bt s j := by
    rw [← bt_list s j hj]
    simp [List.getD, hj]
  rw [e1]
  split
  · rw [h j ‹_› hj]
  · rfl
theorem LowRow.stored {s : ByteArray} {p g : Nat} {wr : World} (h : LowRow s p g wr) (hp : p < s.size) : LowRow s (p + 1) g (wr.setCell ⟨g, p, none⟩ (.int .u8 (lowN (bt s p) : Nat))) := by
  refine ⟨fun j hj => ?_, fun j hj => by rw [World.frozen?_setCell]; exact h.free j hj, by simp [World.setCell]; exact h.lt⟩
  by_cases hjp : j = p
  · subst hjp
    rw [World.cell?_setCell_same _ _ _ (h.cell j hj), if_pos (by omega)]
  · rw [World.cell?_setCell_other _ _ _ _ (by simp [Ne.symm hjp]), h.cell j hj]
    by_cases hlt : j < p
    · rw [if_pos hlt, if_pos (by omega)]
    · rw [if_neg hlt, if_neg (by omega)]
theorem LowRow.kept {s : ByteArray} {p g : Nat} {w w' : World} (h : LowRow s p g w) (hg : w'.heap[g]? = w.heap[g]?) (hs : g < w'.heap.size) : LowRow s p g w' :=
  ⟨fun j hj => by rw [← h.cell j hj]; exact World.cell?_of_block hg, fun j hj => by rw [← h.free j hj]; exact World.frozen?_of_block hg, hs⟩
theorem LowRow.widen {s : ByteArray} {p p' g : Nat} {w : World} (h : LowRow s p g w) (hp : p ≤ p') (hl : ∀ j, p ≤ j → j < p' → j < s.size → lowN (bt s j) = bt s j) : LowRow s p' g w := by
  refine ⟨fun j hj => ?_, h.free, h.lt⟩
  rw [h.cell j hj]
  by_cases h1 : j < p
  · rw [if_pos h1, if_pos (by omega)]
  · rw [if_neg h1]
    by_cases h2 : j < p'
    · rw [if_pos h2, hl j (by omega) h2 hj]
    · rw [if_neg h2]

theorem LowRow.full {s : ByteArray} {p g : Nat} {w : World} (h : LowRow s p g w) (hp : ¬ p < s.size) : LowRow s s.size g w := by
  refine ⟨fun j hj => ?_, h.free, h.lt⟩
  rw [h.cell j hj, if_pos (by omega), if_pos hj]

/-- What Lower keeps from round to round. -/
def LowKeeps (s : ByteArray) (B : Nat) (v : Value) (wr : World) (pos : Nat) : Prop :=
  (v = .slice none 0 0 ∧ ∀ j, j < pos → j < s.size → lowN (bt s j) = bt s j) ∨ ∃ g cap, v = .slice (some ⟨g, 0, none⟩) s.size cap ∧ B < g ∧ LowRow s pos g wr

theorem lowB_same (s : ByteArray) (h : ∀ j, j < s.size → lowN (bt s j) = bt s j) : lowB s = s := by
  refine (ba_eq s _ ?_).symm
  apply List.ext_getElem
  · simp [lowL]
  · intro j h1 h2
    have hj : j < s.size := by simpa using h1
    have e := h j hj
    rw [← bt_list s j hj] at e
    simp only [lowL, List.getElem_map]
    apply UInt8.toNat_inj.1
    rw [lowC_toNat, e]

theorem lowB_row {P : Program} {s : ByteArray} {g cap : Nat} {wr : World} {src dst e : TypeId} (h : LowRow s s.size g wr) (hs : P.underlying src = some (.slice e)) (he : P.underlying e = some (.int .u8)) (hd : P.underlying dst = some .string) :
    (convert src dst (.slice (some ⟨g, 0, none⟩) s.size cap)).run P wr = .ok (.string (lowB s)) wr := by
  have hl : (lowL s.data.toList).length = s.size := by rw [lowL_length, ← ba_size]
  have := run_convert_bytes_back (P := P) wr src dst e ⟨g, 0, none⟩ cap (lowL s.data.toList) hs he hd fun j hj => by
    have hj' : j < s.size := by omega
    have hc := h.cell j hj'
    rw [if_pos hj'] at hc
    rw [show (⟨g, 0, none⟩ : Addr).add j = ⟨g, j, none⟩ from by rw [Addr.add_lit]; simp, hc]
    congr 3
    simp only [lowL, List.getElem_map]
    rw [lowC_toNat, bt_list s j hj']
  rw [hl] at this
  exact this

theorem lowN_mid {n : Nat} (h1 : 65 ≤ n) (h2 : n ≤ 90) : ((n : Int) + 97 - 65) = ((lowN n : Nat) : Int) := by
  unfold lowN; rw [if_pos ⟨h1, h2⟩]; omega
theorem lowN_out {n : Nat} (h : n < 65 ∨ 90 < n) : lowN n = n := by unfold lowN; rw [if_neg (by omega)]

end Go.Proofs.YtcbfhlnnfnpkdaaGreatDoor
namespace Go.Proofs.YtcbfhlnnfnpkdaaGreatDoor
open Go.RowKit
set_option linter.unusedVariables false
set_option linter.unusedSimpArgs false


def foldB (a b : ByteArray) : Bool := (lowB a).toList == (lowB b).toList
theorem foldB_size {a b : ByteArray} (h : a.size ≠ b.size) : foldB a b = false := by
  unfold foldB
  rw [beq_eq_false_iff_ne]
  intro e
  rw [ByteArray.toList_eq, ByteArray.toList_eq] at e
  have := congrArg List.length e
  simp [lowB, lowL_length] at this
  exact h this

end Go.Proofs.YtcbfhlnnfnpkdaaGreatDoor
namespace Go.Proofs.YtcbfhlnnfnpkdaaGreatDoor
open Go.RowKit
set_option linter.unusedVariables false
set_option linter.unusedSimpArgs false

/-- What Trim keeps from round to round: nothing but blanks so far; or first is where the first other octet stands, and end lies within the last row of others, which ends at q. -/
def TrimKeeps (s : ByteArray) (v3 v4 v5 : Value) (pos : Nat) : Prop :=
  (v3 = .int .i64 0 ∧ v4 = .int .i64 0 ∧ v5 = .bool false ∧ ∀ j, j < pos → j < s.size → blankN (bt s j) = true) ∨
  ∃ a e q : Nat, v3 = .int .i64 a ∧ v4 = .int .i64 e ∧ v5 = .bool true ∧ a < e ∧ e ≤ q ∧ q ≤ pos ∧ q ≤ s.size ∧ (∀ j, j < a → blankN (bt s j) = true) ∧ blankN (bt s a) = false ∧
    (∀ j, e ≤ j + 1 → j < q → blankN (bt s j) = false) ∧ ∀ j, q ≤ j → j < pos → j < s.size → blankN (bt s j) = true

theorem TrimKeeps.blank {s : ByteArray} {v3 v4 v5 : Value} {pos : Nat} (h : TrimKeeps s v3 v4 v5 pos) (hb : blankN (bt s pos) = true) : TrimKeeps s v3 v4 v5 (pos + 1) := by
  rcases h with ⟨h3, h4, h5, h⟩ | ⟨a, e, q, h3, h4, h5, g1, g2, g3, g4, g5, g6, g7, g8⟩
  · refine .inl ⟨h3, h4, h5, fun j h1 h2 => ?_⟩
    by_cases hj : j < pos
    · exact h j hj h2
    · obtain rfl : j = pos := by omega
      exact hb
  · refine .inr ⟨a, e, q, h3, h4, h5, g1, g2, by omega, g4, g5, g6, g7, fun j h1 h2 h3 => ?_⟩
    by_cases hj : j < pos
    · exact g8 j h1 hj h3
    · obtain rfl : j = pos := by omega
      exact hb
theorem TrimKeeps.first {s : ByteArray} {v4 v5 : Value} {pos wd : Nat} (hw : 1 ≤ wd) (hsz : pos + wd ≤ s.size) (hn : ∀ j, pos ≤ j → j < pos + wd → blankN (bt s j) = false)
    (h : ∀ j, j < pos → j < s.size → blankN (bt s j) = true) : TrimKeeps s (.int .i64 (pos : Int)) (.int .i64 ((pos : Int) + 1)) (.bool true) (pos + wd) :=
  .inr ⟨pos, pos + 1, pos + wd, rfl, by go_num, rfl, by omega, by omega, Nat.le_refl _, hsz, fun j hj => h j hj (by omega), hn pos (Nat.le_refl _) (by omega), fun j h1 h2 => hn j (by omega) h2, fun j h1 h2 => by omega⟩
theorem TrimKeeps.next {s : ByteArray} {v3 v4 : Value} {a pos wd : Nat} (hw : 1 ≤ wd) (hsz : pos + wd ≤ s.size) (hn : ∀ j, pos ≤ j → j < pos + wd → blankN (bt s j) = false)
    (h3 : v3 = .int .i64 a) (ha : a < pos) (g5 : ∀ j, j < a → blankN (bt s j) = true) (g6 : blankN (bt s a) = false) : TrimKeeps s v3 (.int .i64 ((pos : Int) + 1)) (.bool true) (pos + wd) :=
  .inr ⟨a, pos + 1, pos + wd, h3, by go_num, rfl, by omega, by omega, Nat.le_refl _, hsz, g5, g6, fun j h1 h2 => hn j (by omega) h2, fun j h1 h2 => by omega⟩

set_option maxHeartbeats 1000000 in
theorem oct_trim_any (s : ByteArray) (w : World) (hs : s.size ≤ maxLen) :
    Calls Tryz.prog 95 #[.string s] w fun e w' => e = .returned (.string (trimB s)) ∧ Below w.heap.size w w' := by
  unfold maxLen at hs
  go_enter Tryz.func95, Tryz.ntmps95
  go_wp2
  go_loopw [3, 4, 5, 6, 7] (fun v3 v4 v5 _ _ wr => ∃ pos : Nat, wr.heap[w.heap.size]? = some (.stringIter s pos) ∧ Below w.heap.size w wr ∧ TrimKeeps s v3 v4 v5 pos) (fun _ _ _ _ _ wr => s.size - wr.iterPos w.heap.size)
  case atStart => exact ⟨0, World.iter_heap _ _ _, (Below.refl _ _).alloc (Nat.le_refl _) _, .inl ⟨rfl, rfl, rfl, fun j h => by omega⟩⟩
  case round =>
    obtain ⟨pos, hit, hbel, hkeep⟩ := hrel
    have HB := Lib.hid hbel
    have HI := Lib.hid hit
    have HK := Lib.hid hkeep
    have hmeas : wr.iterPos w.heap.size = pos := by simp [World.iterPos, hit]
    have HM := Lib.hid hmeas
    have hlt0 : w.heap.size < wr.heap.size := (Array.getElem?_eq_some_iff.1 hit).1
    by_cases hlt : pos < s.size
    · have hnx : ∀ ty, (Instr.next (.pointer (some ⟨w.heap.size, 0, none⟩)) true ty).run Tryz.prog wr = _ := fun ty => Lib.run_next_any_at wr w.heap.size s pos ty hit hlt
      clear hmeas hbel hit hkeep
      by_cases hbl : blankN (bt s pos) = true
      · have hlow : bt s pos < 128 := by simp [blankN] at hbl; omega
        have hdec := dec_low s pos hlt hlow
        rw [hdec] at hnx
        have hih := Lib.iterAt_heap wr w.heap.size s pos (pos + 1) HI.out
        have hib := Lib.below_iterAt HB.out (Nat.le_refl _) s (pos + 1)
        generalize hW : wr.iterAt w.heap.size s (pos + 1) = W at *
        have HH := Lib.hid hih
        have HIB := Lib.hid hib
        have HK2 := Lib.hid (HK.out.blank hbl)
        clear hdec hih hib hW
        have hb2 : ((bt s pos : Int) == 32) = true ∨ ((bt s pos : Int) == 32) = false ∧ ((bt s pos : Int) == 9) = true := by
          simp [blankN] at hbl; simp; omega
        clear hbl
        rcases hb2 with e1 | ⟨e1, e2⟩
        all_goals
          go_wp2
          go_roundw
          case rel => exact ⟨pos + 1, HH.out, HIB.out, HK2.out⟩
          case measure =>
            rw [HM.out]
            simp only [World.iterPos, HH.out]
            omega
      · have hnot : ((Utf8.decode s pos).1 == 32) = false ∧ ((Utf8.decode s pos).1 == 9) = false := by
          by_cases hlow : bt s pos < 128
          · rw [dec_low s pos hlt hlow]; simp [blankN] at hbl; simp; omega
          · have := (dec_high s pos hlt (by omega)).1; simp; omega
        have hpos : 1 ≤ (Utf8.decode s pos).2 ∧ pos + (Utf8.decode s pos).2 ≤ s.size ∧ ∀ j, pos ≤ j → j < pos + (Utf8.decode s pos).2 → blankN (bt s j) = false := by
          by_cases hlow : bt s pos < 128
          · rw [dec_low s pos hlt hlow]
            refine ⟨Nat.le_refl _, hlt, fun j h1 h2 => ?_⟩
            obtain rfl : j = pos := by simp only at h2; omega
            simpa using hbl
          · obtain ⟨_, h2, h3⟩ := dec_high s pos hlt (by omega)
            refine ⟨h2, ?_, fun j h4 h5 => ?_⟩
            · have := (h3 (pos + (Utf8.decode s pos).2 - 1) (by omega) (by omega)).1; omega
            · have := (h3 j h4 h5).2; simp [blankN]; omega
        obtain ⟨hp1, hp2, hp3⟩ := hpos
        have HP := Lib.hid hp3
        have hd2 := decode_le s pos
        obtain ⟨n1, n2⟩ := hnot
        clear hp3 hbl
        generalize Utf8.decode s pos = d at *
        obtain ⟨r, wd⟩ := d
        dsimp only at *
        have e1 : ((r : Int) == 32) = false := by simp at n1 ⊢; omega
        have e2 : ((r : Int) == 9) = false := by simp at n2 ⊢; omega
        have hih := Lib.iterAt_heap wr w.heap.size s pos (pos + wd) HI.out
        have hib := Lib.below_iterAt HB.out (Nat.le_refl _) s (pos + wd)
        generalize hW : wr.iterAt w.heap.size s (pos + wd) = W at *
        have HH := Lib.hid hih
        have HIB := Lib.hid hib
        clear hih hib hW n1 n2
        rcases HK.out with ⟨rfl, rfl, rfl, hno⟩ | ⟨a, e, q, rfl, rfl, rfl, g1, g2, g3, g4, g5, g6, g7, g8⟩
        · have HN := Lib.hid hno
          clear hno
          go_wp2
          go_roundw
          case rel => exact ⟨pos + wd, HH.out, HIB.out, TrimKeeps.first (v4 := .nilIface) (v5 := .nilIface) hp1 hp2 HP.out HN.out⟩
          case measure =>
            rw [HM.out]
            simp only [World.iterPos, HH.out]
            omega
        · have H5 := Lib.hid g5
          have H6 := Lib.hid g6
          clear g5 g6 g7 g8
          go_wp2
          go_roundw
          case rel => exact ⟨pos + wd, HH.out, HIB.out, TrimKeeps.next (v4 := .nilIface) hp1 hp2 HP.out rfl (by omega) H5.out H6.out⟩
          case measure =>
            rw [HM.out]
            simp only [World.iterPos, HH.out]
            omega
    · have hnx : ∀ ty, (Instr.next (.pointer (some ⟨w.heap.size, 0, none⟩)) true ty).run Tryz.prog wr = _ := fun ty => Lib.run_next_end_at wr w.heap.size s pos ty hit hlt
      clear hmeas hbel hit hkeep
      rcases HK.out with ⟨rfl, rfl, rfl, hno⟩ | ⟨a, e, q, rfl, rfl, rfl, g1, g2, g3, g4, g5, g6, g7, g8⟩
      · have HE := Lib.hid (trimB_blank s fun j hj => hno j (by omega) hj)
        clear hno
        go_wp2
        go_ret
        exact ⟨ret_str HE.out, HB.out⟩
      · have hfin := trimB_extract s a q (by omega) g4 g5 (fun j h1 h2 => g8 j h1 (by omega) h2) g6 (g7 (q - 1) (by omega) (by omega))
        have HE := Lib.hid hfin
        have H7 := Lib.hid g7
        have H8 := Lib.hid g8
        clear hfin g5 g6 g7 g8
        obtain ⟨wo, rfl⟩ : ∃ wo : World, wo = wr := ⟨_, rfl⟩
        go_wp2
        go_loop [4] (fun v => ∃ k : Nat, e ≤ k ∧ k ≤ q ∧ v = .int .i64 k) (fun v => s.size - (intOf v).toNat)
        case atStart => exact ⟨e, Nat.le_refl _, g2, rfl⟩
        case round =>
          obtain ⟨k, hk1, hk2, rfl⟩ := hrel
          by_cases hkq : k < q
          · have hb := H7.out k (by omega) hkq
            have hbt := bt_at s k (by omega)
            have hks : k < s.size := by omega
            have e1 : ((s[k].toNat : Int) != 32) = true := by rw [hbt]; simp [blankN] at hb; simp; omega
            have e2 : ((s[k].toNat : Int) != 9) = true := by rw [hbt]; simp [blankN] at hb; simp; omega
            clear hb hbt
            go_wp2
            go_round
            case rel => exact ⟨k + 1, by omega, by omega, by go_num⟩
            case measure => simp [intOf]; omega
          · obtain rfl : k = q := by omega
            by_cases hks : k < s.size
            · have hb := H8.out k (Nat.le_refl _) (by omega) hks
              have hbt := bt_at s k hks
              have e1 : ((s[k].toNat : Int) != 32) = false ∨ ((s[k].toNat : Int) != 32) = true ∧ ((s[k].toNat : Int) != 9) = false := by rw [hbt]; simp [blankN] at hb; simp; omega
              clear hb hbt
              rcases e1 with e1 | ⟨e1, e2⟩
              all_goals
                go_wp2
                go_ret
                exact ⟨ret_str HE.out, HB.out⟩
            · go_wp2
              go_ret
              exact ⟨ret_str HE.out, HB.out⟩
end Go.Proofs.YtcbfhlnnfnpkdaaGreatDoor
namespace Go.Proofs.YtcbfhlnnfnpkdaaGreatDoor
open Go.RowKit
set_option linter.unusedVariables false
set_option linter.unusedSimpArgs false

theorem ex1_trim : trimB ⟨#[32, 97, 9]⟩ = ⟨#[97]⟩ := by decide +kernel
theorem ex1_fold : foldB ⟨#[75, 101, 101, 112, 45, 65, 108, 105, 118, 101]⟩ ⟨#[107, 101, 101, 112, 45, 97, 108, 105, 118, 101]⟩ = true := by decide +kernel
theorem ex1_tok : tokenB ⟨#[97, 45, 98]⟩ = true := by decide +kernel
theorem ex1_tok2 : tokenB ⟨#[97, 32, 98]⟩ = false := by decide +kernel
theorem ex1_low : lowB ⟨#[97, 66]⟩ = ⟨#[97, 98]⟩ := by decide +kernel
theorem ex1_vis : visibleB ⟨#[97, 47, 98]⟩ = true := by decide +kernel

end Go.Proofs.YtcbfhlnnfnpkdaaGreatDoor
namespace Go.Proofs.YtcbfhlnnfnpkdaaGreatDoor
open Go.RowKit
set_option linter.unusedVariables false
set_option linter.unusedSimpArgs false

theorem extract_le (s : ByteArray) (n : Nat) : (s.extract 0 n).size ≤ n := by
  rw [ba_size, Lib.extract_data]; simp; omega

theorem below_drewN (w : World) (n : Nat) : Below w.heap.size w (w.drewN n) := ⟨rfl, rfl, rfl, Nat.le_refl _, fun _ _ => rfl⟩

end Go.Proofs.YtcbfhlnnfnpkdaaGreatDoor
namespace Go.Proofs.YtcbfhlnnfnpkdaaGreatDoor
open Go.RowKit
set_option linter.unusedVariables false
set_option linter.unusedSimpArgs false

theorem lowN_lowN (n : Nat) : lowN (lowN n) = lowN n := by
  by_cases h : 65 ≤ n ∧ n ≤ 90
  · have e : lowN n = n + 32 := by unfold lowN; rw [if_pos h]
    rw [e, lowN_out (by omega)]
  · have e : lowN n = n := by unfold lowN; rw [if_neg h]
    rw [e, e]
theorem lowC_lowC (c : UInt8) : lowC (lowC c) = lowC c := by
  apply UInt8.toNat_inj.1
  rw [lowC_toNat, lowC_toNat, lowN_lowN]
theorem lowB_lowB (s : ByteArray) : lowB (lowB s) = lowB s := by
  unfold lowB
  congr 2
  simp [lowL, lowC_lowC]
theorem lowB_size (s : ByteArray) : (lowB s).size = s.size := by rw [ba_size, ba_size]; simp [lowB, lowL]
theorem trimB_trimB (s : ByteArray) : trimB (trimB s) = trimB s := by
  unfold trimB
  congr 2
  simp [trimL_trimL]
theorem trimB_size (s : ByteArray) : (trimB s).size ≤ s.size := by
  rw [ba_size, ba_size]
  simp only [trimB]
  exact trimL_length _
theorem trimB_around (s : ByteArray) : trimB (⟨#[32, 9]⟩ ++ s ++ ⟨#[9, 32]⟩) = trimB s := by
  unfold trimB
  congr 2
  have := trimL_around s.data.toList [32, 9] [9, 32] (by decide) (by decide)
  rw [← this]
  simp
theorem foldB_low (a : ByteArray) : foldB a (lowB a) = true := by simp [foldB, lowB_lowB]
theorem foldB_comm (a b : ByteArray) : foldB a b = foldB b a := by
  unfold foldB
  rw [Bool.eq_iff_iff]
  simp
  exact ⟨Eq.symm, Eq.symm⟩
theorem foldB_trans {a b c : ByteArray} (h1 : foldB a b = true) (h2 : foldB b c = true) : foldB a c = true := by
  simp [foldB] at *
  rw [h1, h2]
theorem trimB_token {a : ByteArray} (h : tokenB a = true) : trimB a = a ∧ visibleB a = true ∧ allB valueB a = true := by
  simp only [tokenB, Bool.and_eq_true] at h
  obtain ⟨h0, h⟩ := h
  have hall : ∀ c ∈ a.data.toList, tcharB c.toNat = true := by
    unfold allB at h
    rw [List.all_eq_true] at h
    exact h
  have hlo : ∀ c ∈ a.data.toList, 33 ≤ c.toNat ∧ c.toNat ≤ 126 := fun c hc => tchar_low _ c.toNat_lt (hall c hc)
  refine ⟨?_, ?_, ?_⟩
  · refine (ba_eq a _ ?_).symm
    have ht : Tidy a.data.toList := by
      rcases List.eq_nil_or_concat a.data.toList with e | ⟨r, c, e⟩
      · exact .inl e
      · right
        rw [List.concat_eq_append] at e
        refine ⟨?_, r, c, e, ?_⟩
        · cases hx : a.data.toList with
          | nil => rw [hx] at e; simp at e
          | cons d m => exact ⟨d, m, rfl, by have := hlo d (by rw [hx]; simp); simp [blankC, blankN]; omega⟩
        · have := hlo c (by rw [e]; simp); simp [blankC, blankN]; omega
    exact (trimL_tidy _ ht).symm
  · simp only [visibleB, h0, Bool.true_and, allB, List.all_eq_true]
    intro c hc
    have := hlo c hc
    simp [visB, this]
  · simp only [allB, List.all_eq_true]
    intro c hc
    have := hlo c hc
    simp [valueB]; omega
theorem trimB_ends (s : ByteArray) (h : 0 < (trimB s).size) : blankN (bt (trimB s) 0) = false ∧ blankN (bt (trimB s) ((trimB s).size - 1)) = false := by
  obtain ⟨p, q, e, hp, hq, ht⟩ := trimL_part s.data.toList
  have hd : (trimB s).data.toList = trimL s.data.toList := by simp [trimB]
  rcases ht with ht | ⟨⟨c, r, h1, h2⟩, r', c', h3, h4⟩
  · rw [ba_len hd, ht] at h; simp at h
  · exact ⟨by rw [bt_cons (hd.trans h1)]; exact h2, by rw [bt_snoc (hd.trans h3)]; exact h4⟩

end Go.Proofs.YtcbfhlnnfnpkdaaGreatDoor
