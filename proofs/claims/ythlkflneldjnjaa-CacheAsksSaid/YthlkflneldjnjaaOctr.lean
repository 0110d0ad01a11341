/- Layer 1: what the document's own answers for octets come to. -/
import Derived.Test.YthlkflneldjnjaaProg
import Derived.Test.YthlkflneldjnjaaPa
import Derived.WalkSpells
import Derived.WalkLawsBesides
import Derived.Deep.Light
namespace Go.Proofs.Ythlkflneldjnjaa
open Go.RowKit
set_option linter.unusedVariables false
set_option linter.unusedSimpArgs false



theorem other_cases (n : Int) (h0 : 0 ≤ n) (ho : otherB n.toNat = true) : n < 48 ∨ (58 ≤ n ∧ n < 65) ∨ (91 ≤ n ∧ n < 97) ∨ 123 ≤ n := by
  simp [otherB] at ho; omega
theorem alnum_cases (n : Int) (h0 : 0 ≤ n) (ho : otherB n.toNat = false) : (48 ≤ n ∧ n ≤ 57) ∨ (65 ≤ n ∧ n ≤ 90) ∨ (97 ≤ n ∧ n ≤ 122) := by
  simp [otherB] at ho; omega

set_option maxHeartbeats 400000 in
theorem ref_tchar_any (n : Int) (w : World) (h0 : 0 ≤ n) (h1 : n ≤ 255) :
    Calls Try.prog 97 #[.int .u8 n] w fun e w' => e = .returned (.bool (tcharB n.toNat)) ∧ w = w' := by
  by_cases hO : otherB n.toNat = true
  · have hnone := tchar_none n.toNat (by omega) hO
    have HN := Lib.hid hnone
    have ho := other_cases n h0 hO
    clear hnone hO
    rcases ho with ho | ⟨ho, ho'⟩ | ⟨ho, ho'⟩ | ho
    all_goals
      go_enter Try.func97, Try.ntmps97
      go_wp2
      rw [marksB_eq]
      go_loop [4] (fun i => ∃ k : Nat, k ≤ 15 ∧ i = .int .i64 k ∧ ∀ j, j < k → bt marksB j ≠ n.toNat) (fun i => 15 - (intOf i).toNat)
      case atStart => exact ⟨0, by omega, rfl, fun j h => by omega⟩
      case round =>
        obtain ⟨k, hk, rfl, hf⟩ := hrel
        have HF := Lib.hid hf
        clear hf
        have hsz := marksB_size
        by_cases hlt : k < 15
        · have hb := bt_at marksB k (by rw [marksB_size]; omega)
          have htm := tchar_mark k hlt
          have HB := Lib.hid hb
          have HT := Lib.hid htm
          clear hb htm
          go_wp2
          · have hq : ((marksB[k].toNat : Int) == n) = true := by assumption
            go_ret
            refine ⟨ret_bool ?_, rfl⟩
            have hq2 : bt marksB k = n.toNat := by rw [← HB.out]; simp at hq; omega
            rw [← hq2, HT.out]
          · have hq : ((marksB[k].toNat : Int) == n) = false := by assumption
            go_round
            case rel =>
              refine ⟨k + 1, by omega, by go_num, fun j hj => ?_⟩
              by_cases hjk : j < k
              · exact HF.out j hjk
              · obtain rfl : j = k := by omega
                rw [← HB.out]; simp at hq; omega
            case measure => simp [intOf]; omega
        · go_wp2
          go_ret
          exact ⟨ret_bool (HN.out fun j hj => HF.out j (by omega)).symm, rfl⟩
  · have hO' : otherB n.toNat = false := by simpa using hO
    have ht := tchar_alnum n.toNat (by omega) hO'
    have ho := alnum_cases n h0 hO'
    clear hO hO'
    rw [ht]
    clear ht
    rcases ho with ⟨ho, ho'⟩ | ⟨ho, ho'⟩ | ⟨ho, ho'⟩
    all_goals
      go_enter Try.func97, Try.ntmps97
      go_wp2
      go_ret
      exact ⟨rfl, rfl⟩

set_option maxHeartbeats 400000 in
theorem ref_token_any (s : ByteArray) (w : World) (hs : s.size ≤ maxLen) :
    Calls Try.prog 60 #[.string s] w fun e w' => e = .returned (.bool (tokenB s)) ∧ w = w' := by
  unfold maxLen at hs
  go_enter Try.func60, Try.ntmps60
  go_wp2
  go_loop [3] (fun i => ∃ k : Nat, k ≤ s.size ∧ i = .int .i64 k ∧ ∀ j, j < k → tcharB (bt s j) = true) (fun i => s.size - (intOf i).toNat)
  case atStart => exact ⟨0, by omega, rfl, fun j h => by omega⟩
  case round =>
    obtain ⟨k, hk, rfl, hf⟩ := hrel
    have HF := Lib.hid hf
    clear hf
    by_cases hlt : k < s.size
    · have hb := bt_at s k hlt
      have HB := Lib.hid hb
      have h255 := bt_lt s k
      rw [← hb] at h255
      clear hb
      go_wp2_with fail
      refine (ref_tchar_any _ _ (by omega) (by omega)).mono ?_
      rintro e w' ⟨rfl, rfl⟩
      rw [Int.toNat_natCast, HB.out]
      cases ht : tcharB (bt s k)
      · go_wp2
        go_ret
        refine ⟨ret_bool ?_, rfl⟩
        rw [tokenB, allB_false k hlt ht]; simp
      · have HT := Lib.hid ht
        clear ht
        go_wp2
        go_round
        case rel =>
          refine ⟨k + 1, by omega, by go_num, fun j hj => ?_⟩
          by_cases hjk : j < k
          · exact HF.out j hjk
          · obtain rfl : j = k := by omega
            exact HT.out
        case measure => simp [intOf]; omega
    · go_wp2
      go_ret
      refine ⟨ret_bool ?_, rfl⟩
      have ha : allB tcharB s = true := allB_true fun j hj => HF.out j (by omega)
      rw [tokenB, ha]
      cases h : s.data.toList with
      | nil => have : s.size = 0 := by (show s.data.size = 0); rw [← Array.length_toList, h]; rfl
               simp [this]
      | cons a l => have : s.size = l.length + 1 := by (show s.data.size = _); rw [← Array.length_toList, h]; rfl
                    simp [this]

set_option maxHeartbeats 400000 in
theorem ref_value_any (s : ByteArray) (w : World) (hs : s.size ≤ maxLen) :
    Calls Try.prog 117 #[.string s] w fun e w' => e = .returned (.bool (allB valueB s)) ∧ w = w' := by
  unfold maxLen at hs
  go_enter Try.func117, Try.ntmps117
  go_wp2
  go_loop [3] (fun i => ∃ k : Nat, k ≤ s.size ∧ i = .int .i64 k ∧ ∀ j, j < k → valueB (bt s j) = true) (fun i => s.size - (intOf i).toNat)
  case atStart => exact ⟨0, by omega, rfl, fun j h => by omega⟩
  case round =>
    obtain ⟨k, hk, rfl, hf⟩ := hrel
    have HF := Lib.hid hf
    clear hf
    by_cases hlt : k < s.size
    · have hb := bt_at s k hlt
      have HB := Lib.hid hb
      clear hb
      go_wp2
      all_goals go_light
      all_goals first
        | (go_round
           case rel =>
             refine ⟨k + 1, by omega, by go_num, fun j hj => ?_⟩
             by_cases hjk : j < k
             · exact HF.out j hjk
             · obtain rfl : j = k := by omega
               rw [← HB.out]; simp [valueB] at *; omega
           case measure => simp [intOf]; omega)
        | (go_ret
           refine ⟨ret_bool ?_, rfl⟩
           rw [allB_false k hlt (by rw [← HB.out]; simp [valueB] at *; omega)])
    · go_wp2
      go_ret
      exact ⟨ret_bool (allB_true fun j hj => HF.out j (by omega)).symm, rfl⟩

theorem Try.infoB : (Try.prog.info? 5).map (fun i => (i.zero, i.size, i.bytes)) = some (some (.int .u8 0), 1, 1) := by kernel_rfl

set_option maxHeartbeats 400000 in
theorem ref_lower_any (s : ByteArray) (w : World) (hs : s.size ≤ 140737488351232) :
    Calls Try.prog 61 #[.string s] w fun e w' => e = .returned (.string (lowB s)) ∧ Below w.heap.size w w' := by
  go_enter Try.func61, Try.ntmps61
  go_wp2
  go_loopw [3, 4] (fun v i wr => ∃ k : Nat, k ≤ s.size ∧ i = .int .i64 k ∧ wr.ownsRow w.heap.size 5 1 v (lowL (s.data.toList.take k)).length (bv (lowL (s.data.toList.take k))) ∧ Below w.heap.size w wr) (fun _ i _ => s.size - (intOf i).toNat)
  case atStart => exact ⟨0, by omega, rfl, World.ownsRow_made _ _ 0 (Nat.le_refl _) (by unfold maxLen; omega) rfl, (Below.refl _ _).alloc (Nat.le_refl _) _⟩
  case round =>
    obtain ⟨k, hk, rfl, hown, hbel⟩ := hrel
    have hll : (lowL (s.data.toList.take k)).length ≤ k := by rw [lowL_length, List.length_take]; omega
    have hsz := hbel.size
    by_cases hlt : k < s.size
    · have hts := lowL_take s k hlt
      have HT := Lib.hid hts
      clear hts
      by_cases hu : 65 ≤ s[k].toNat ∧ s[k].toNat ≤ 90
      · obtain ⟨hu1, hu2⟩ := hu
        have hc : (s[k].toNat : Int) + 32 = ((lowC s[k]).toNat : Int) := by rw [lowC_toNat, lowN, if_pos ⟨hu1, hu2⟩]; simp
        have HC := Lib.hid hc
        clear hc
        go_wp2_with (at_builtin; refine app_byte rfl _ _ _ _ rfl Try.underlying102 Try.infoB w.heap.size _ _ rfl hown (lowC s[k]) _ HC.out rfl (by omega) hsz ?_; intro v' w' hown' hb' _)
        go_roundw
        case rel => exact ⟨k + 1, by omega, by go_num, by rw [HT.out]; exact hown', hbel.trans hb'⟩
        case measure => simp [intOf]; omega
      · have hu' : s[k].toNat < 65 ∨ 90 < s[k].toNat := by omega
        have hc : (s[k].toNat : Int) = ((lowC s[k]).toNat : Int) := by rw [lowC_toNat, lowN, if_neg hu]
        have HC := Lib.hid hc
        clear hc hu
        rcases hu' with hu | hu
        all_goals
          go_wp2_with (at_builtin; refine app_byte rfl _ _ _ _ rfl Try.underlying102 Try.infoB w.heap.size _ _ rfl hown (lowC s[k]) _ HC.out rfl (by omega) hsz ?_; intro v' w' hown' hb' _)
          go_roundw
          case rel => exact ⟨k + 1, by omega, by go_num, by rw [HT.out]; exact hown', hbel.trans hb'⟩
          case measure => simp [intOf]; omega
    · have hcv := own_string (src := 102) (dst := 9) Try.underlying102 Try.underlying5 Try.underlying9 hown
      have hka : s.data.toList.take k = s.data.toList := List.take_of_length_le (by simp; omega)
      have HK := Lib.hid hka
      clear hka
      go_wp2
      go_ret
      exact ⟨by rw [HK.out]; rfl, hbel⟩
end Go.Proofs.Ythlkflneldjnjaa
