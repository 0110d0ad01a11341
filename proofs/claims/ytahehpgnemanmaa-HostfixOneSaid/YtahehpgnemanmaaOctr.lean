/- Layer 1: what the document's own answers for octets come to. -/
import Derived.Test.YtahehpgnemanmaaProg
import Derived.Test.YtahehpgnemanmaaPa
import Derived.WalkSpells
import Derived.WalkLawsBesides
import Derived.Deep.Light
namespace Go.Proofs.Ytahehpgnemanmaa
open Go.RowKit
set_option linter.unusedVariables false
set_option linter.unusedSimpArgs false



theorem other_cases (n : Int) (h0 : 0 ≤ n) (ho : otherB n.toNat = true) : n < 48 ∨ (58 ≤ n ∧ n < 65) ∨ (91 ≤ n ∧ n < 97) ∨ 123 ≤ n := by
  simp [otherB] at ho; omega
theorem alnum_cases (n : Int) (h0 : 0 ≤ n) (ho : otherB n.toNat = false) : (48 ≤ n ∧ n ≤ 57) ∨ (65 ≤ n ∧ n ≤ 90) ∨ (97 ≤ n ∧ n ≤ 122) := by
  simp [otherB] at ho; omega

theorem Try.infoB : (Try.prog.info? 5).map (fun i => (i.zero, i.size, i.bytes)) = some (some (.int .u8 0), 1, 1) := by kernel_rfl

set_option maxHeartbeats 400000 in
theorem ref_lower_any (s : ByteArray) (w : World) (hs : s.size ≤ 140737488351232) :
    Calls Try.prog 16 #[.string s] w fun e w' => e = .returned (.string (lowB s)) ∧ Below w.heap.size w w' := by
  go_enter Try.func16, Try.ntmps16
  go_wp2
  go_loopw [3, 4] (fun v i wr => ∃ k : Nat, k ≤ s.size ∧ i = .int .i64 k ∧ wr.ownsRow w.heap.size 5 1 v (lowL (s.data.toList.take k)).length (bv (lowL (s.data.toList.take k))) ∧ Below w.heap.size w wr) (fun _ i _ => s.size - (intOf i).toNat)
  case atStart => exact ⟨0, by omega, rfl, World.ownsRow_made _ _ 0 (Nat.le_refl _) (by unfold maxLen; omega) rfl, (Below.refl _ _).alloc (Nat.le_refl _) _⟩
  case round =>
    obtain ⟨k, hk, rfl, hown, hbel⟩ := hrel
    have hll : (lowL (s.data.toList.take k)).length ≤ k := by rw [lowL_length, List.length_take]; omega
    have hsz := hbel.size
    by_cases hlt : k < s.size
    · have hts := lowL_take s k hlt
      have HT := Lib.hid hts
      clear hts
      by_cases hu : 65 ≤ s[k].toNat ∧ s[k].toNat ≤ 90
      · obtain ⟨hu1, hu2⟩ := hu
        have hc : (s[k].toNat : Int) + 32 = ((lowC s[k]).toNat : Int) := by rw [lowC_toNat, lowN, if_pos ⟨hu1, hu2⟩]; simp
        have HC := Lib.hid hc
        clear hc
        go_wp2_with (at_builtin; refine app_byte rfl _ _ _ _ rfl Try.underlying59 Try.infoB w.heap.size _ _ rfl hown (lowC s[k]) _ HC.out rfl (by omega) hsz ?_; intro v' w' hown' hb' _)
        go_roundw
        case rel => exact ⟨k + 1, by omega, by go_num, by rw [HT.out]; exact hown', hbel.trans hb'⟩
        case measure => simp [intOf]; omega
      · have hu' : s[k].toNat < 65 ∨ 90 < s[k].toNat := by omega
        have hc : (s[k].toNat : Int) = ((lowC s[k]).toNat : Int) := by rw [lowC_toNat, lowN, if_neg hu]
        have HC := Lib.hid hc
        clear hc hu
        rcases hu' with hu | hu
        all_goals
          go_wp2_with (at_builtin; refine app_byte rfl _ _ _ _ rfl Try.underlying59 Try.infoB w.heap.size _ _ rfl hown (lowC s[k]) _ HC.out rfl (by omega) hsz ?_; intro v' w' hown' hb' _)
          go_roundw
          case rel => exact ⟨k + 1, by omega, by go_num, by rw [HT.out]; exact hown', hbel.trans hb'⟩
          case measure => simp [intOf]; omega
    · have hcv := own_string (src := 59) (dst := 9) Try.underlying59 Try.underlying5 Try.underlying9 hown
      have hka : s.data.toList.take k = s.data.toList := List.take_of_length_le (by simp; omega)
      have HK := Lib.hid hka
      clear hka
      go_wp2
      go_ret
      exact ⟨by rw [HK.out]; rfl, hbel⟩
end Go.Proofs.Ytahehpgnemanmaa
