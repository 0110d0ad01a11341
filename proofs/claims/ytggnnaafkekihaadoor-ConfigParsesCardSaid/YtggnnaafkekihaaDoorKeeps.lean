/- Layer 1: what the document's own answers for octets come to. · Layer 1: Trim, as the document's answer has it. · Layer 1: the program's own functions on octets. · Layer 1: Lower, Fold and Trim of the program. · Layer 1: Fold of the program. · Layer 1: Trim of the program. · Layer 1: the document's examples hold. · Layer 1: the walks of the three laws. · Layer 1: the walk of the law OctetKeeps. -/
import Derived.Test.YtggnnaafkekihaaDoorProg
import Derived.Test.YtggnnaafkekihaaDoorPb
import Derived.WalkSpells
import Derived.WalkLawsBesides
import Derived.Deep.Light
import Derived.Lib.TrimU
import Derived.Lib.ConvBytes
import Derived.Lib.SliceRun
import Derived.Deep.QuietTactic
import Derived.BigQuiet
import Derived.OpenShut
import Derived.Deep.DeepCutAuto
namespace Go.Proofs.YtggnnaafkekihaaDoor
open Go.RowKit
set_option linter.unusedVariables false
set_option linter.unusedSimpArgs false



theorem other_cases (n : Int) (h0 : 0 ≤ n) (ho : otherB n.toNat = true) : n < 48 ∨ (58 ≤ n ∧ n < 65) ∨ (91 ≤ n ∧ n < 97) ∨ 123 ≤ n := by
  simp [otherB] at ho; omega
theorem alnum_cases (n : Int) (h0 : 0 ≤ n) (ho : otherB n.toNat = false) : (48 ≤ n ∧ n ≤ 57) ∨ (65 ≤ n ∧ n ≤ 90) ∨ (97 ≤ n ∧ n ≤ 122) := by
  simp [otherB] at ho; omega

set_option maxHeartbeats 400000 in
theorem ref_tchar_any (n : Int) (w : World) (h0 : 0 ≤ n) (h1 : n ≤ 255) :
    Calls Tryd.prog 52 #[.int .u8 n] w fun e w' => e = .returned (.bool (tcharB n.toNat)) ∧ w = w' := by
  by_cases hO : otherB n.toNat = true
  · have hnone := tchar_none n.toNat (by omega) hO
    have HN := Lib.hid hnone
    have ho := other_cases n h0 hO
    clear hnone hO
    rcases ho with ho | ⟨ho, ho'⟩ | ⟨ho, ho'⟩ | ho
    all_goals
      go_enter Tryd.func52, Tryd.ntmps52
      go_wp2
      rw [marksB_eq]
      go_loop [4] (fun i => ∃ k : Nat, k ≤ 15 ∧ i = .int .i64 k ∧ ∀ j, j < k → bt marksB j ≠ n.toNat) (fun i => 15 - (intOf i).toNat)
      case atStart => exact ⟨0, by omega, rfl, fun j h => by omega⟩
      case round =>
        obtain ⟨k, hk, rfl, hf⟩ := hrel
        have HF := Lib.hid hf
        clear hf
        have hsz := marksB_size
        by_cases hlt : k < 15
        · have hb := bt_at marksB k (by rw [marksB_size]; omega)
          have htm := tchar_mark k hlt
          have HB := Lib.hid hb
          have HT := Lib.hid htm
          clear hb htm
          go_wp2
          · have hq : ((marksB[k].toNat : Int) == n) = true := by assumption
            go_ret
            refine ⟨ret_bool ?_, rfl⟩
            have hq2 : bt marksB k = n.toNat := by rw [← HB.out]; simp at hq; omega
            rw [← hq2, HT.out]
          · have hq : ((marksB[k].toNat : Int) == n) = false := by assumption
            go_round
            case rel =>
              refine ⟨k + 1, by omega, by go_num, fun j hj => ?_⟩
              by_cases hjk : j < k
              · exact HF.out j hjk
              · obtain rfl : j = k := by omega
                rw [← HB.out]; simp at hq; omega
            case measure => simp [intOf]; omega
        · go_wp2
          go_ret
          exact ⟨ret_bool (HN.out fun j hj => HF.out j (by omega)).symm, rfl⟩
  · have hO' : otherB n.toNat = false := by simpa using hO
    have ht := tchar_alnum n.toNat (by omega) hO'
    have ho := alnum_cases n h0 hO'
    clear hO hO'
    rw [ht]
    clear ht
    rcases ho with ⟨ho, ho'⟩ | ⟨ho, ho'⟩ | ⟨ho, ho'⟩
    all_goals
      go_enter Tryd.func52, Tryd.ntmps52
      go_wp2
      go_ret
      exact ⟨rfl, rfl⟩

set_option maxHeartbeats 400000 in
theorem ref_token_any (s : ByteArray) (w : World) (hs : s.size ≤ maxLen) :
    Calls Tryd.prog 36 #[.string s] w fun e w' => e = .returned (.bool (tokenB s)) ∧ w = w' := by
  unfold maxLen at hs
  go_enter Tryd.func36, Tryd.ntmps36
  go_wp2
  go_loop [3] (fun i => ∃ k : Nat, k ≤ s.size ∧ i = .int .i64 k ∧ ∀ j, j < k → tcharB (bt s j) = true) (fun i => s.size - (intOf i).toNat)
  case atStart => exact ⟨0, by omega, rfl, fun j h => by omega⟩
  case round =>
    obtain ⟨k, hk, rfl, hf⟩ := hrel
    have HF := Lib.hid hf
    clear hf
    by_cases hlt : k < s.size
    · have hb := bt_at s k hlt
      have HB := Lib.hid hb
      have h255 := bt_lt s k
      rw [← hb] at h255
      clear hb
      go_wp2_with fail
      refine (ref_tchar_any _ _ (by omega) (by omega)).mono ?_
      rintro e w' ⟨rfl, rfl⟩
      rw [Int.toNat_natCast, HB.out]
      cases ht : tcharB (bt s k)
      · go_wp2
        go_ret
        refine ⟨ret_bool ?_, rfl⟩
        rw [tokenB, allB_false k hlt ht]; simp
      · have HT := Lib.hid ht
        clear ht
        go_wp2
        go_round
        case rel =>
          refine ⟨k + 1, by omega, by go_num, fun j hj => ?_⟩
          by_cases hjk : j < k
          · exact HF.out j hjk
          · obtain rfl : j = k := by omega
            exact HT.out
        case measure => simp [intOf]; omega
    · go_wp2
      go_ret
      refine ⟨ret_bool ?_, rfl⟩
      have ha : allB tcharB s = true := allB_true fun j hj => HF.out j (by omega)
      rw [tokenB, ha]
      cases h : s.data.toList with
      | nil => have : s.size = 0 := by (show s.data.size = 0); rw [← Array.length_toList, h]; rfl
               simp [this]
      | cons a l => have : s.size = l.length + 1 := by (show s.data.size = _); rw [← Array.length_toList, h]; rfl
                    simp [this]

theorem Tryd.infoB : (Tryd.prog.info? 5).map (fun i => (i.zero, i.size, i.bytes)) = some (some (.int .u8 0), 1, 1) := by kernel_rfl

set_option maxHeartbeats 400000 in
theorem ref_lower_any (s : ByteArray) (w : World) (hs : s.size ≤ 140737488351232) :
    Calls Tryd.prog 68 #[.string s] w fun e w' => e = .returned (.string (lowB s)) ∧ Below w.heap.size w w' := by
  go_enter Tryd.func68, Tryd.ntmps68
  go_wp2
  go_loopw [3, 4] (fun v i wr => ∃ k : Nat, k ≤ s.size ∧ i = .int .i64 k ∧ wr.ownsRow w.heap.size 5 1 v (lowL (s.data.toList.take k)).length (bv (lowL (s.data.toList.take k))) ∧ Below w.heap.size w wr) (fun _ i _ => s.size - (intOf i).toNat)
  case atStart => exact ⟨0, by omega, rfl, World.ownsRow_made _ _ 0 (Nat.le_refl _) (by unfold maxLen; omega) rfl, (Below.refl _ _).alloc (Nat.le_refl _) _⟩
  case round =>
    obtain ⟨k, hk, rfl, hown, hbel⟩ := hrel
    have hll : (lowL (s.data.toList.take k)).length ≤ k := by rw [lowL_length, List.length_take]; omega
    have hsz := hbel.size
    by_cases hlt : k < s.size
    · have hts := lowL_take s k hlt
      have HT := Lib.hid hts
      clear hts
      by_cases hu : 65 ≤ s[k].toNat ∧ s[k].toNat ≤ 90
      · obtain ⟨hu1, hu2⟩ := hu
        have hc : (s[k].toNat : Int) + 32 = ((lowC s[k]).toNat : Int) := by rw [lowC_toNat, lowN, if_pos ⟨hu1, hu2⟩]; simp
        have HC := Lib.hid hc
        clear hc
        go_wp2_with (at_builtin; refine app_byte rfl _ _ _ _ rfl Tryd.underlying61 Tryd.infoB w.heap.size _ _ rfl hown (lowC s[k]) _ HC.out rfl (by omega) hsz ?_; intro v' w' hown' hb' _)
        go_roundw
        case rel => exact ⟨k + 1, by omega, by go_num, by rw [HT.out]; exact hown', hbel.trans hb'⟩
        case measure => simp [intOf]; omega
      · have hu' : s[k].toNat < 65 ∨ 90 < s[k].toNat := by omega
        have hc : (s[k].toNat : Int) = ((lowC s[k]).toNat : Int) := by rw [lowC_toNat, lowN, if_neg hu]
        have HC := Lib.hid hc
        clear hc hu
        rcases hu' with hu | hu
        all_goals
          go_wp2_with (at_builtin; refine app_byte rfl _ _ _ _ rfl Tryd.underlying61 Tryd.infoB w.heap.size _ _ rfl hown (lowC s[k]) _ HC.out rfl (by omega) hsz ?_; intro v' w' hown' hb' _)
          go_roundw
          case rel => exact ⟨k + 1, by omega, by go_num, by rw [HT.out]; exact hown', hbel.trans hb'⟩
          case measure => simp [intOf]; omega
    · have hcv := own_string (src := 61) (dst := 9) Tryd.underlying61 Tryd.underlying5 Tryd.underlying9 hown
      have hka : s.data.toList.take k = s.data.toList := List.take_of_length_le (by simp; omega)
      have HK := Lib.hid hka
      clear hka
      go_wp2
      go_ret
      exact ⟨by rw [HK.out]; rfl, hbel⟩
end Go.Proofs.YtggnnaafkekihaaDoor
namespace Go.Proofs.YtggnnaafkekihaaDoor
open Go.RowKit
set_option linter.unusedVariables false
set_option linter.unusedSimpArgs false

end Go.Proofs.YtggnnaafkekihaaDoor
namespace Go.Proofs.YtggnnaafkekihaaDoor
open Go.RowKit
set_option linter.unusedVariables false
set_option linter.unusedSimpArgs false

set_option maxHeartbeats 400000 in
theorem oct_tchar_any (n : Int) (w : World) (h0 : 0 ≤ n) (h1 : n ≤ 255) :
    Calls Tryd.prog 47 #[.int .u8 n] w fun e w' => e = .returned (.bool (tcharB n.toNat)) ∧ Below w.heap.size w w' := by
  by_cases hO : otherB n.toNat = true
  · have hnone := tchar_none n.toNat (by omega) hO
    have HN := Lib.hid hnone
    have ho := other_cases n h0 hO
    clear hnone hO
    rcases ho with ho | ⟨ho, ho'⟩ | ⟨ho, ho'⟩ | ho
    all_goals
      go_enter Tryd.func47, Tryd.ntmps47
      go_wp2
      rw [marksB_eq]
      go_loopw [4] (fun _ wr => ∃ k : Nat, k ≤ 15 ∧ wr = w.iter marksB k ∧ ∀ j, j < k → bt marksB j ≠ n.toNat) (fun _ wr => 15 - wr.iterPos w.heap.size)
      case atStart => exact ⟨0, by omega, rfl, fun j h => by omega⟩
      case round =>
        obtain ⟨k, hk, rfl, hf⟩ := hrel
        have HF := Lib.hid hf
        clear hf
        have hsz := marksB_size
        by_cases hlt : k < 15
        · have hb := bt_at marksB k (by rw [marksB_size]; omega)
          have htm := tchar_mark k hlt
          have hlo := marksB_low k hlt
          have HB := Lib.hid hb
          have HT := Lib.hid htm
          have hnx : ∀ ty, (Instr.next (.pointer (some ⟨w.heap.size, 0, none⟩)) true ty).run Tryd.prog (w.iter marksB k) = _ := fun ty => run_next_ascii w marksB k ty (by rw [marksB_size]; omega) (by rw [hb]; exact hlo)
          clear hb htm
          go_wp2
          · have hq : (n == (marksB[k].toNat : Int)) = true := by assumption
            go_ret
            refine ⟨ret_bool ?_, (Below.refl _ _).alloc (Nat.le_refl _) _⟩
            have hq2 : bt marksB k = n.toNat := by rw [← HB.out]; simp at hq; omega
            rw [← hq2, HT.out]
          · have hq : (n == (marksB[k].toNat : Int)) = false := by assumption
            go_roundw
            case rel =>
              refine ⟨k + 1, by omega, rfl, fun j hj => ?_⟩
              by_cases hjk : j < k
              · exact HF.out j hjk
              · obtain rfl : j = k := by omega
                rw [← HB.out]; simp at hq; omega
            case measure => simp; omega
        · have hnx : ∀ ty, (Instr.next (.pointer (some ⟨w.heap.size, 0, none⟩)) true ty).run Tryd.prog (w.iter marksB k) = _ := fun ty => run_next_end w marksB k ty (by rw [marksB_size]; omega)
          go_wp2
          go_ret
          exact ⟨ret_bool (HN.out fun j hj => HF.out j (by omega)).symm, (Below.refl _ _).alloc (Nat.le_refl _) _⟩
  · have hO' : otherB n.toNat = false := by simpa using hO
    have ht := tchar_alnum n.toNat (by omega) hO'
    have ho := alnum_cases n h0 hO'
    clear hO hO'
    rw [ht]
    clear ht
    rcases ho with ⟨ho, ho'⟩ | ⟨ho, ho'⟩ | ⟨ho, ho'⟩
    all_goals
      go_enter Tryd.func47, Tryd.ntmps47
      go_wp2
      go_ret
      exact ⟨rfl, Below.refl _ _⟩

/-! ### What is asked of each rune -/
def runeTok (n : Int) : Bool := decide (n < 128) && tcharB n.toNat
def runeVal (n : Int) : Bool := n == 9 || (decide (32 ≤ n) && n != 127)
def runeVis (n : Int) : Bool := decide (33 ≤ n) && decide (n ≤ 126)

set_option maxHeartbeats 400000 in
theorem fit_tok (n : Int) (w : World) (h0 : 0 ≤ n) (h1 : n ≤ 1114111) :
    Calls Tryd.prog 46 #[.int .i32 n] w fun e w' => e = .returned (.bool (runeTok n)) ∧ Below w.heap.size w w' := by
  by_cases hl : n < 128
  · have hr : runeTok n = tcharB n.toNat := by simp [runeTok, hl]
    rw [hr]
    clear hr
    go_enter Tryd.func46, Tryd.ntmps46
    go_wp2_with (go_at_call 47; refine (oct_tchar_any _ _ (by omega) (by omega)).mono ?_; rintro e w' ⟨rfl, hb⟩)
    go_ret
    exact ⟨rfl, hb⟩
  · have hr : runeTok n = false := by simp [runeTok, hl]
    rw [hr]
    clear hr
    go_enter Tryd.func46, Tryd.ntmps46
    go_wp2
    go_ret
    exact ⟨rfl, Below.refl _ _⟩

theorem runeTok_low (n : Nat) (h : n < 128) : runeTok (n : Int) = tcharB n := by
  have : (n : Int) < 128 := by omega
  simp [runeTok, this]
theorem runeTok_high (n : Nat) (h : 128 ≤ n) : runeTok (n : Int) = false := by
  have : ¬ (n : Int) < 128 := by omega
  simp [runeTok, this]
theorem runeVal_low (n : Nat) (h : n < 128) : runeVal (n : Int) = valueB n := by
  rw [Bool.eq_iff_iff]; simp [runeVal, valueB]; omega
theorem runeVal_high (n : Nat) (h : 128 ≤ n) : runeVal (n : Int) = true := by
  simp [runeVal]; omega
theorem runeVis_low (n : Nat) (h : n < 128) : runeVis (n : Int) = visB n := by
  rw [Bool.eq_iff_iff]; simp [runeVis, visB]; omega
theorem runeVis_high (n : Nat) (h : 128 ≤ n) : runeVis (n : Int) = false := by
  simp [runeVis]; omega
theorem valueB_high (n : Nat) (h : 128 ≤ n) : valueB n = true := by simp [valueB]; omega
theorem visB_high (n : Nat) (h : 128 ≤ n) : visB n = false := by simp [visB]; omega

set_option maxHeartbeats 400000 in
theorem each_tok (s : ByteArray) (w : World) (hs : s.size ≤ maxLen) :
    Calls Tryd.prog 45 #[.string s, .func (.func 46) #[] #[]] w fun e w' => e = .returned (.bool (allB tcharB s)) ∧ Below w.heap.size w w' := by
  unfold maxLen at hs
  go_enter Tryd.func45, Tryd.ntmps45
  go_wp2
  go_loopw [6] (fun _ wr => ∃ pos : Nat, wr.heap[w.heap.size]? = some (.stringIter s pos) ∧ Below w.heap.size w wr ∧ ∀ j, j < pos → j < s.size → tcharB (bt s j) = true) (fun _ wr => s.size - wr.iterPos w.heap.size)
  case atStart => exact ⟨0, World.iter_heap _ _ _, (Below.refl _ _).alloc (Nat.le_refl _) _, fun j h => by omega⟩
  case round =>
    obtain ⟨pos, hit, hbel, hf⟩ := hrel
    have HF := Lib.hid hf
    have HB := Lib.hid hbel
    have HI := Lib.hid hit
    have hmeas : wr.iterPos w.heap.size = pos := by simp [World.iterPos, hit]
    have HM := Lib.hid hmeas
    have hlt0 : w.heap.size < wr.heap.size := (Array.getElem?_eq_some_iff.1 hit).1
    by_cases hlt : pos < s.size
    · have hnx : ∀ ty, (Instr.next (.pointer (some ⟨w.heap.size, 0, none⟩)) true ty).run Tryd.prog wr = _ := fun ty => Lib.run_next_any_at wr w.heap.size s pos ty hit hlt
      have hnew : ∀ p w', Below (wr.iterAt w.heap.size s p).heap.size (wr.iterAt w.heap.size s p) w' → w'.heap[w.heap.size]? = some (.stringIter s p) ∧ Below w.heap.size w w' := by
        intro p w' hb
        have hs1 := Lib.iterAt_size wr w.heap.size s p
        refine ⟨by rw [hb.block _ (by rw [hs1]; exact hlt0)]; exact Lib.iterAt_heap wr _ s pos p hit, ?_⟩
        exact (Lib.below_iterAt hbel (Nat.le_refl _) s p).trans (hb.mono (by rw [hs1]; omega))
      have HN := Lib.hid hnew
      clear hf hbel hit hmeas hnew
      have hd2 := decode_le s pos
      by_cases hlow : bt s pos < 128
      · have hdec := dec_low s pos hlt hlow
        have h127 : bt s pos ≤ 1114111 := by omega
        rw [hdec] at hnx
        clear hdec hd2
        go_wp2_with fail
        refine (fit_tok _ _ (by omega) (by omega)).mono ?_
        rintro e w' ⟨rfl, hb⟩
        rw [runeTok_low _ hlow]
        obtain ⟨hi', hb'⟩ := HN.out _ _ hb
        clear hb
        cases ht : tcharB (bt s pos)
        · go_wp2
          go_ret
          exact ⟨ret_bool (allB_false pos hlt ht).symm, hb'⟩
        · have HT := Lib.hid ht
          clear ht
          go_wp2
          go_roundw
          case rel =>
            refine ⟨pos + 1, hi', hb', fun j hj hj2 => ?_⟩
            by_cases hjk : j < pos
            · exact HF.out j hjk hj2
            · obtain rfl : j = pos := by omega
              exact HT.out
          case measure =>
            rw [HM.out]
            simp [World.iterPos, hi']
            omega
      · have hhi := dec_high s pos hlt (by omega)
        obtain ⟨hh1, hh2, hh3⟩ := hhi
        have HH := Lib.hid hh3
        have hmax : (Utf8.decode s pos).1 ≤ 1114111 := Lib.rune_le s pos
        clear hh3 hd2
        generalize Utf8.decode s pos = d at *
        obtain ⟨r, wd⟩ := d
        dsimp only at *
        go_wp2_with fail
        refine (fit_tok _ _ (by omega) (by omega)).mono ?_
        rintro e w' ⟨rfl, hb⟩
        rw [runeTok_high _ hh1]
        obtain ⟨hi', hb'⟩ := HN.out _ _ hb
        clear hb
        go_wp2
        go_ret
        exact ⟨ret_bool (allB_false pos hlt (tchar_high _ (by omega))).symm, hb'⟩
    · have hnx : ∀ ty, (Instr.next (.pointer (some ⟨w.heap.size, 0, none⟩)) true ty).run Tryd.prog wr = _ := fun ty => Lib.run_next_end_at wr w.heap.size s pos ty hit hlt
      clear hf hbel hit hmeas
      go_wp2
      go_ret
      exact ⟨ret_bool (allB_true fun j hj => HF.out j (by omega) hj).symm, HB.out⟩

theorem nonempty_of (s : ByteArray) (h : s.size ≠ 0) : s.data.toList.isEmpty = false := by
  cases hl : s.data.toList with
  | nil => rw [ba_len hl] at h; simp at h
  | cons a r => rfl

theorem tokenB_nil {s : ByteArray} (h : s.toList = []) : false = tokenB s := by
  rw [ByteArray.toList_eq] at h
  simp [tokenB, h]
theorem tokenB_eq (s : ByteArray) : (!s.toList.isEmpty && allB tcharB s) = tokenB s := by rw [tokenB, ByteArray.toList_eq]
theorem visibleB_nil {s : ByteArray} (h : s.toList = []) : false = visibleB s := by
  rw [ByteArray.toList_eq] at h
  simp [visibleB, h]
theorem visibleB_eq (s : ByteArray) : (!s.toList.isEmpty && allB visB s) = visibleB s := by rw [visibleB, ByteArray.toList_eq]

set_option maxHeartbeats 400000 in
theorem oct_token_any (s : ByteArray) (w : World) (hs : s.size ≤ maxLen) :
    Calls Tryd.prog 29 #[.string s] w fun e w' => e = .returned (.bool (tokenB s)) ∧ Below w.heap.size w w' := by
  go_enter Tryd.func29, Tryd.ntmps29
  go_wp2_with (go_at_call 45; refine (each_tok _ _ hs).mono ?_; rintro e w' ⟨rfl, hb⟩)
  · go_ret
    exact ⟨ret_bool (tokenB_nil ‹_›), Below.refl _ _⟩
  · go_ret
    exact ⟨ret_bool (tokenB_eq s), hb⟩

end Go.Proofs.YtggnnaafkekihaaDoor
namespace Go.Proofs.YtggnnaafkekihaaDoor
open Go.RowKit
set_option linter.unusedVariables false
set_option linter.unusedSimpArgs false

theorem bytesWorld_frozen (w : World) (e : TypeId) (s : ByteArray) (j : Nat) (hj : j < s.size) : (Lib.bytesWorld w e s).frozen? ⟨w.heap.size, j, none⟩ = false := by
  have h1 : s.size ≤ (Lib.bytesCells w e s).size := by simp [Lib.bytesCells]
  simp [World.frozen?, Lib.bytesWorld_at_new]
  omega
theorem bytesWorld_below (w : World) (e : TypeId) (s : ByteArray) : Below w.heap.size w (Lib.bytesWorld w e s) :=
  ⟨by simp [Lib.bytesWorld, World.freeze, World.alloc, World.drew, -World.alloc_eq, -World.drew_eq], by simp [Lib.bytesWorld, World.freeze, World.alloc, World.drew, -World.alloc_eq, -World.drew_eq], by simp [Lib.bytesWorld, World.freeze, World.alloc, World.drew, -World.alloc_eq, -World.drew_eq], by rw [Lib.bytesWorld_size]; omega, fun k hk => Lib.bytesWorld_at_old w e s k hk⟩

/-- The octets of s, the first p of them small, stand in block g. -/
structure LowRow (s : ByteArray) (p g : Nat) (wr : World) : Prop where
  cell : ∀ j, j < s.size → wr.cell? ⟨g, j, none⟩ = some (.int .u8 ((if j < p then lowN (bt s j) else bt s j : Nat) : Int))
  free : ∀ j, j < s.size → wr.frozen? ⟨g, j, none⟩ = false
  lt : g < wr.heap.size

theorem LowRow.made (s : ByteArray) (p : Nat) (w : World) (e : TypeId) (h : ∀ j, j < p → j < s.size → lowN (bt s j) = bt s j) : LowRow s p w.heap.size (Lib.bytesWorld w e s) := by
  refine ⟨fun j hj => ?_, fun j hj => bytesWorld_frozen w e s j hj, by rw [Lib.bytesWorld_size]; omega⟩
  rw [Lib.bytesWorld_cell w e s j hj]
  have e1 : (s.data.toList.getD j 0).toNat = bt s j := by
    rw [← bt_list s j hj]
    simp [List.getD, hj]
  rw [e1]
  split
  · rw [h j ‹_› hj]
  · rfl
theorem LowRow.stored {s : ByteArray} {p g : Nat} {wr : World} (h : LowRow s p g wr) (hp : p < s.size) : LowRow s (p + 1) g (wr.setCell ⟨g, p, none⟩ (.int .u8 (lowN (bt s p) : Nat))) := by
  refine ⟨fun j hj => ?_, fun j hj => by rw [World.frozen?_setCell]; exact h.free j hj, by simp [World.setCell]; exact h.lt⟩
  by_cases hjp : j = p
  · subst hjp
    rw [World.cell?_setCell_same _ _ _ (h.cell j hj), if_pos (by omega)]
  · rw [World.cell?_setCell_other _ _ _ _ (by simp [Ne.symm hjp]), h.cell j hj]
    by_cases hlt : j < p
    · rw [if_pos hlt, if_pos (by omega)]
    · rw [if_neg hlt, if_neg (by omega)]
theorem LowRow.kept {s : ByteArray} {p g : Nat} {w w' : World} (h : LowRow s p g w) (hg : w'.heap[g]? = w.heap[g]?) (hs : g < w'.heap.size) : LowRow s p g w' :=
  ⟨fun j hj => by rw [← h.cell j hj]; exact World.cell?_of_block hg, fun j hj => by rw [← h.free j hj]; exact World.frozen?_of_block hg, hs⟩
theorem LowRow.widen {s : ByteArray} {p p' g : Nat} {w : World} (h : LowRow s p g w) (hp : p ≤ p') (hl : ∀ j, p ≤ j → j < p' → j < s.size → lowN (bt s j) = bt s j) : LowRow s p' g w := by
  refine ⟨fun j hj => ?_, h.free, h.lt⟩
  rw [h.cell j hj]
  by_cases h1 : j < p
  · rw [if_pos h1, if_pos (by omega)]
  · rw [if_neg h1]
    by_cases h2 : j < p'
    · rw [if_pos h2, hl j (by omega) h2 hj]
    · rw [if_neg h2]

theorem LowRow.full {s : ByteArray} {p g : Nat} {w : World} (h : LowRow s p g w) (hp : ¬ p < s.size) : LowRow s s.size g w := by
  refine ⟨fun j hj => ?_, h.free, h.lt⟩
  rw [h.cell j hj, if_pos (by omega), if_pos hj]

/-- What Lower keeps from round to round. -/
def LowKeeps (s : ByteArray) (B : Nat) (v : Value) (wr : World) (pos : Nat) : Prop :=
  (v = .slice none 0 0 ∧ ∀ j, j < pos → j < s.size → lowN (bt s j) = bt s j) ∨ ∃ g cap, v = .slice (some ⟨g, 0, none⟩) s.size cap ∧ B < g ∧ LowRow s pos g wr

theorem lowB_same (s : ByteArray) (h : ∀ j, j < s.size → lowN (bt s j) = bt s j) : lowB s = s := by
  refine (ba_eq s _ ?_).symm
  apply List.ext_getElem
  · simp [lowL]
  · intro j h1 h2
    have hj : j < s.size := by simpa using h1
    have e := h j hj
    rw [← bt_list s j hj] at e
    simp only [lowL, List.getElem_map]
    apply UInt8.toNat_inj.1
    rw [lowC_toNat, e]

theorem lowB_row {P : Program} {s : ByteArray} {g cap : Nat} {wr : World} {src dst e : TypeId} (h : LowRow s s.size g wr) (hs : P.underlying src = some (.slice e)) (he : P.underlying e = some (.int .u8)) (hd : P.underlying dst = some .string) :
    (convert src dst (.slice (some ⟨g, 0, none⟩) s.size cap)).run P wr = .ok (.string (lowB s)) wr := by
  have hl : (lowL s.data.toList).length = s.size := by rw [lowL_length, ← ba_size]
  have := run_convert_bytes_back (P := P) wr src dst e ⟨g, 0, none⟩ cap (lowL s.data.toList) hs he hd fun j hj => by
    have hj' : j < s.size := by omega
    have hc := h.cell j hj'
    rw [if_pos hj'] at hc
    rw [show (⟨g, 0, none⟩ : Addr).add j = ⟨g, j, none⟩ from by rw [Addr.add_lit]; simp, hc]
    congr 3
    simp only [lowL, List.getElem_map]
    rw [lowC_toNat, bt_list s j hj']
  rw [hl] at this
  exact this

theorem lowN_mid {n : Nat} (h1 : 65 ≤ n) (h2 : n ≤ 90) : ((n : Int) + 97 - 65) = ((lowN n : Nat) : Int) := by
  unfold lowN; rw [if_pos ⟨h1, h2⟩]; omega
theorem lowN_out {n : Nat} (h : n < 65 ∨ 90 < n) : lowN n = n := by unfold lowN; rw [if_neg (by omega)]

set_option maxRecDepth 100000 in
set_option maxHeartbeats 800000 in
theorem oct_lower_any (s : ByteArray) (w : World) (hs : s.size ≤ 140737488351232) :
    Calls Tryd.prog 64 #[.string s] w fun e w' => e = .returned (.string (lowB s)) ∧ Below w.heap.size w w' := by
  have hnil := fun (wx : World) (a : Option Addr) (n c : Nat) => Lib.run_eql_slice_nil (P := Tryd.prog) wx 61 5 a n c 0 0 Tryd.underlying61
  go_enter Tryd.func64, Tryd.ntmps64
  go_wp2
  go_loopw [3, 4, 5] (fun v _ _ wr => ∃ pos : Nat, wr.heap[w.heap.size]? = some (.stringIter s pos) ∧ Below w.heap.size w wr ∧ LowKeeps s w.heap.size v wr pos) (fun _ _ _ wr => s.size - wr.iterPos w.heap.size)
  case atStart => exact ⟨0, World.iter_heap _ _ _, (Below.refl _ _).alloc (Nat.le_refl _) _, .inl ⟨rfl, fun j h => by omega⟩⟩
  case round =>
    obtain ⟨pos, hit, hbel, hkeep⟩ := hrel
    have HB := Lib.hid hbel
    have HI := Lib.hid hit
    have HK := Lib.hid hkeep
    have hmeas : wr.iterPos w.heap.size = pos := by simp [World.iterPos, hit]
    have HM := Lib.hid hmeas
    have hlt0 : w.heap.size < wr.heap.size := (Array.getElem?_eq_some_iff.1 hit).1
    by_cases hlt : pos < s.size
    · have hnx : ∀ ty, (Instr.next (.pointer (some ⟨w.heap.size, 0, none⟩)) true ty).run Tryd.prog wr = _ := fun ty => Lib.run_next_any_at wr w.heap.size s pos ty hit hlt
      clear hmeas hbel hit hkeep
      by_cases hup : 65 ≤ bt s pos ∧ bt s pos ≤ 90
      · obtain ⟨hu1, hu2⟩ := hup
        have hdec := dec_low s pos hlt (by omega)
        rw [hdec] at hnx
        clear hdec
        have hiz := Lib.iterAt_size wr w.heap.size s (pos + 1)
        have hih := Lib.iterAt_heap wr w.heap.size s pos (pos + 1) HI.out
        have hio : ∀ j, j ≠ w.heap.size → (wr.iterAt w.heap.size s (pos + 1)).heap[j]? = wr.heap[j]? := fun j h => Lib.iterAt_other wr _ j s _ h
        have hib := Lib.below_iterAt HB.out (Nat.le_refl _) s (pos + 1)
        generalize hW : wr.iterAt w.heap.size s (pos + 1) = W at *
        have HZ := Lib.hid hiz
        have HH := Lib.hid hih
        have HO := Lib.hid hio
        have HIB := Lib.hid hib
        have HWe := Lib.hid hW
        clear hiz hih hio hib hW
        have hmid := lowN_mid hu1 hu2
        have HMID := Lib.hid hmid
        clear hmid
        rcases HK.out with ⟨rfl, hno⟩ | ⟨g, cap, rfl, hg, hrow⟩
        · have hrow2 : LowRow s pos W.heap.size (Lib.bytesWorld W 5 s) := LowRow.made s pos W _ hno
          have hcell := hrow2.cell pos hlt
          have hfree := hrow2.free pos hlt
          have hcv := Lib.run_convert_string_bytes (P := Tryd.prog) W 9 61 5 s Tryd.underlying9 Tryd.underlying61 Tryd.underlying5
          rw [if_neg (Nat.lt_irrefl pos)] at hcell
          clear hno
          go_wp2
          rw [HMID.out]
          go_roundw
          case rel =>
            refine ⟨pos + 1, ?_, ?_, .inr ⟨W.heap.size, _, rfl, ?_, hrow2.stored hlt⟩⟩
            · rw [Below.heap_setCell _ _ _ _ (by show w.heap.size ≠ W.heap.size; rw [HZ.out]; omega), Lib.bytesWorld_at_old _ _ _ _ (by rw [HZ.out]; exact hlt0)]
              exact HH.out
            · exact (HIB.out.trans ((bytesWorld_below W _ s).mono (by rw [HZ.out]; omega))).setCell (by show w.heap.size ≤ W.heap.size; rw [HZ.out]; omega) _
            · rw [HZ.out]; exact hlt0
          case measure =>
            rw [HM.out]
            have hx : (((Lib.bytesWorld W 5 s).setCell ⟨W.heap.size, pos, none⟩ (.int .u8 (lowN (bt s pos) : Nat))).heap[w.heap.size]?) = some (.stringIter s (pos + 1)) := by
              rw [Below.heap_setCell _ _ _ _ (by show w.heap.size ≠ W.heap.size; rw [HZ.out]; omega), Lib.bytesWorld_at_old _ _ _ _ (by rw [HZ.out]; exact hlt0)]
              exact HH.out
            simp only [World.iterPos, hx]
            omega
        · have hcell := hrow.cell pos hlt
          have hfree := hrow.free pos hlt
          rw [if_neg (Nat.lt_irrefl pos)] at hcell
          have hcellW : W.cell? ⟨g, pos, none⟩ = some (.int .u8 (bt s pos : Nat)) := by rw [← hcell]; exact World.cell?_of_block (HO.out g (by omega))
          have hfreeW : W.frozen? ⟨g, pos, none⟩ = false := by rw [← hfree]; exact World.frozen?_of_block (HO.out g (by omega))
          have hrowW : LowRow s pos g W := hrow.kept (HO.out g (by omega)) (by rw [HZ.out]; exact hrow.lt)
          clear hcell hfree
          go_wp2
          rw [HMID.out]
          have hx : ((W.setCell ⟨g, pos, none⟩ (.int .u8 (lowN (bt s pos) : Nat))).heap[w.heap.size]?) = some (.stringIter s (pos + 1)) := by
            rw [Below.heap_setCell _ _ _ _ (by show w.heap.size ≠ g; omega)]
            exact HH.out
          go_roundw
          case rel =>
            exact ⟨pos + 1, hx, HIB.out.setCell (by show w.heap.size ≤ g; omega) _, .inr ⟨g, cap, rfl, hg, hrowW.stored hlt⟩⟩
          case measure =>
            rw [HM.out]
            simp only [World.iterPos, hx]
            omega
      · have hnot : (Utf8.decode s pos).1 < 65 ∨ 90 < (Utf8.decode s pos).1 := by
          by_cases hlow : bt s pos < 128
          · rw [dec_low s pos hlt hlow]; simp only; omega
          · have := (dec_high s pos hlt (by omega)).1; omega
        have hpos : 1 ≤ (Utf8.decode s pos).2 ∧ ∀ j, pos ≤ j → j < pos + (Utf8.decode s pos).2 → j < s.size → lowN (bt s j) = bt s j := by
          by_cases hlow : bt s pos < 128
          · rw [dec_low s pos hlt hlow]
            refine ⟨Nat.le_refl _, fun j h1 h2 _ => ?_⟩
            obtain rfl : j = pos := by simp only at h2; omega
            exact lowN_out (by omega)
          · obtain ⟨_, h2, h3⟩ := dec_high s pos hlt (by omega)
            exact ⟨h2, fun j h4 h5 _ => lowN_out (by have := (h3 j h4 h5).2; omega)⟩
        obtain ⟨hp1, hp2⟩ := hpos
        have HP := Lib.hid hp2
        have hd2 := decode_le s pos
        clear hp2 hup
        generalize Utf8.decode s pos = d at *
        obtain ⟨r, wd⟩ := d
        dsimp only at *
        have hiz := Lib.iterAt_size wr w.heap.size s (pos + wd)
        have hih := Lib.iterAt_heap wr w.heap.size s pos (pos + wd) HI.out
        have hio : ∀ j, j ≠ w.heap.size → (wr.iterAt w.heap.size s (pos + wd)).heap[j]? = wr.heap[j]? := fun j h => Lib.iterAt_other wr _ j s _ h
        have hib := Lib.below_iterAt HB.out (Nat.le_refl _) s (pos + wd)
        generalize hW : wr.iterAt w.heap.size s (pos + wd) = W at *
        have HZ := Lib.hid hiz
        have HH := Lib.hid hih
        have HO := Lib.hid hio
        have HIB := Lib.hid hib
        have HWe := Lib.hid hW
        clear hiz hih hio hib hW
        have hkeep2 : LowKeeps s w.heap.size u3 W (pos + wd) := by
          rcases HK.out with ⟨rfl, hno⟩ | ⟨g, cap, rfl, hg, hrow⟩
          · exact .inl ⟨rfl, fun j h1 h2 => by
              by_cases h3 : j < pos
              · exact hno j h3 h2
              · exact HP.out j (by omega) h1 h2⟩
          · exact .inr ⟨g, cap, rfl, hg, (hrow.kept (HO.out g (by omega)) (by rw [HZ.out]; exact hrow.lt)).widen (by omega) fun j h1 h2 h3 => HP.out j h1 h2 h3⟩
        have HK2 := Lib.hid hkeep2
        clear hkeep2
        rcases hnot with hnot | hnot
        all_goals
          go_wp2
          go_roundw
          case rel => exact ⟨pos + wd, HH.out, HIB.out, HK2.out⟩
          case measure =>
            rw [HM.out]
            simp only [World.iterPos, HH.out]
            omega
    · have hnx : ∀ ty, (Instr.next (.pointer (some ⟨w.heap.size, 0, none⟩)) true ty).run Tryd.prog wr = _ := fun ty => Lib.run_next_end_at wr w.heap.size s pos ty hit hlt
      clear hmeas hbel hit hkeep
      rcases HK.out with ⟨rfl, hno⟩ | ⟨g, cap, rfl, hg, hrow⟩
      · have hsame := lowB_same s fun j hj => hno j (by omega) hj
        have HS := Lib.hid hsame
        clear hno hsame
        go_wp2
        go_ret
        exact ⟨ret_str HS.out.symm, HB.out⟩
      · have hcv := lowB_row (P := Tryd.prog) (cap := cap) (src := 61) (dst := 9) (LowRow.full hrow hlt) Tryd.underlying61 Tryd.underlying5 Tryd.underlying9
        go_wp2
        go_ret
        exact ⟨rfl, HB.out⟩
end Go.Proofs.YtggnnaafkekihaaDoor
namespace Go.Proofs.YtggnnaafkekihaaDoor
open Go.RowKit
set_option linter.unusedVariables false
set_option linter.unusedSimpArgs false


def foldB (a b : ByteArray) : Bool := (lowB a).toList == (lowB b).toList
theorem foldB_size {a b : ByteArray} (h : a.size ≠ b.size) : foldB a b = false := by
  unfold foldB
  rw [beq_eq_false_iff_ne]
  intro e
  rw [ByteArray.toList_eq, ByteArray.toList_eq] at e
  have := congrArg List.length e
  simp [lowB, lowL_length] at this
  exact h this

end Go.Proofs.YtggnnaafkekihaaDoor
namespace Go.Proofs.YtggnnaafkekihaaDoor
open Go.RowKit
set_option linter.unusedVariables false
set_option linter.unusedSimpArgs false

/-- What Trim keeps from round to round: nothing but blanks so far; or first is where the first other octet stands, and end lies within the last row of others, which ends at q. -/
def TrimKeeps (s : ByteArray) (v3 v4 v5 : Value) (pos : Nat) : Prop :=
  (v3 = .int .i64 0 ∧ v4 = .int .i64 0 ∧ v5 = .bool false ∧ ∀ j, j < pos → j < s.size → blankN (bt s j) = true) ∨
  ∃ a e q : Nat, v3 = .int .i64 a ∧ v4 = .int .i64 e ∧ v5 = .bool true ∧ a < e ∧ e ≤ q ∧ q ≤ pos ∧ q ≤ s.size ∧ (∀ j, j < a → blankN (bt s j) = true) ∧ blankN (bt s a) = false ∧
    (∀ j, e ≤ j + 1 → j < q → blankN (bt s j) = false) ∧ ∀ j, q ≤ j → j < pos → j < s.size → blankN (bt s j) = true

theorem TrimKeeps.blank {s : ByteArray} {v3 v4 v5 : Value} {pos : Nat} (h : TrimKeeps s v3 v4 v5 pos) (hb : blankN (bt s pos) = true) : TrimKeeps s v3 v4 v5 (pos + 1) := by
  rcases h with ⟨h3, h4, h5, h⟩ | ⟨a, e, q, h3, h4, h5, g1, g2, g3, g4, g5, g6, g7, g8⟩
  · refine .inl ⟨h3, h4, h5, fun j h1 h2 => ?_⟩
    by_cases hj : j < pos
    · exact h j hj h2
    · obtain rfl : j = pos := by omega
      exact hb
  · refine .inr ⟨a, e, q, h3, h4, h5, g1, g2, by omega, g4, g5, g6, g7, fun j h1 h2 h3 => ?_⟩
    by_cases hj : j < pos
    · exact g8 j h1 hj h3
    · obtain rfl : j = pos := by omega
      exact hb
theorem TrimKeeps.first {s : ByteArray} {v4 v5 : Value} {pos wd : Nat} (hw : 1 ≤ wd) (hsz : pos + wd ≤ s.size) (hn : ∀ j, pos ≤ j → j < pos + wd → blankN (bt s j) = false)
    (h : ∀ j, j < pos → j < s.size → blankN (bt s j) = true) : TrimKeeps s (.int .i64 (pos : Int)) (.int .i64 ((pos : Int) + 1)) (.bool true) (pos + wd) :=
  .inr ⟨pos, pos + 1, pos + wd, rfl, by go_num, rfl, by omega, by omega, Nat.le_refl _, hsz, fun j hj => h j hj (by omega), hn pos (Nat.le_refl _) (by omega), fun j h1 h2 => hn j (by omega) h2, fun j h1 h2 => by omega⟩
theorem TrimKeeps.next {s : ByteArray} {v3 v4 : Value} {a pos wd : Nat} (hw : 1 ≤ wd) (hsz : pos + wd ≤ s.size) (hn : ∀ j, pos ≤ j → j < pos + wd → blankN (bt s j) = false)
    (h3 : v3 = .int .i64 a) (ha : a < pos) (g5 : ∀ j, j < a → blankN (bt s j) = true) (g6 : blankN (bt s a) = false) : TrimKeeps s v3 (.int .i64 ((pos : Int) + 1)) (.bool true) (pos + wd) :=
  .inr ⟨a, pos + 1, pos + wd, h3, by go_num, rfl, by omega, by omega, Nat.le_refl _, hsz, g5, g6, fun j h1 h2 => hn j (by omega) h2, fun j h1 h2 => by omega⟩

end Go.Proofs.YtggnnaafkekihaaDoor
namespace Go.Proofs.YtggnnaafkekihaaDoor
open Go.RowKit
set_option linter.unusedVariables false
set_option linter.unusedSimpArgs false

theorem ex1_trim : trimB ⟨#[32, 97, 9]⟩ = ⟨#[97]⟩ := by decide +kernel
theorem ex1_fold : foldB ⟨#[75, 101, 101, 112, 45, 65, 108, 105, 118, 101]⟩ ⟨#[107, 101, 101, 112, 45, 97, 108, 105, 118, 101]⟩ = true := by decide +kernel
theorem ex1_tok : tokenB ⟨#[97, 45, 98]⟩ = true := by decide +kernel
theorem ex1_tok2 : tokenB ⟨#[97, 32, 98]⟩ = false := by decide +kernel
theorem ex1_low : lowB ⟨#[97, 66]⟩ = ⟨#[97, 98]⟩ := by decide +kernel
theorem ex1_vis : visibleB ⟨#[97, 47, 98]⟩ = true := by decide +kernel

end Go.Proofs.YtggnnaafkekihaaDoor
namespace Go.Proofs.YtggnnaafkekihaaDoor
open Go.RowKit
set_option linter.unusedVariables false
set_option linter.unusedSimpArgs false

theorem extract_le (s : ByteArray) (n : Nat) : (s.extract 0 n).size ≤ n := by
  rw [ba_size, Lib.extract_data]; simp; omega

theorem below_drewN (w : World) (n : Nat) : Below w.heap.size w (w.drewN n) := ⟨rfl, rfl, rfl, Nat.le_refl _, fun _ _ => rfl⟩

end Go.Proofs.YtggnnaafkekihaaDoor
namespace Go.Proofs.YtggnnaafkekihaaDoor
open Go.RowKit
set_option linter.unusedVariables false
set_option linter.unusedSimpArgs false

theorem lowN_lowN (n : Nat) : lowN (lowN n) = lowN n := by
  by_cases h : 65 ≤ n ∧ n ≤ 90
  · have e : lowN n = n + 32 := by unfold lowN; rw [if_pos h]
    rw [e, lowN_out (by omega)]
  · have e : lowN n = n := by unfold lowN; rw [if_neg h]
    rw [e, e]
theorem lowC_lowC (c : UInt8) : lowC (lowC c) = lowC c := by
  apply UInt8.toNat_inj.1
  rw [lowC_toNat, lowC_toNat, lowN_lowN]
theorem lowB_lowB (s : ByteArray) : lowB (lowB s) = lowB s := by
  unfold lowB
  congr 2
  simp [lowL, lowC_lowC]
theorem lowB_size (s : ByteArray) : (lowB s).size = s.size := by rw [ba_size, ba_size]; simp [lowB, lowL]
theorem trimB_trimB (s : ByteArray) : trimB (trimB s) = trimB s := by
  unfold trimB
  congr 2
  simp [trimL_trimL]
theorem trimB_size (s : ByteArray) : (trimB s).size ≤ s.size := by
  rw [ba_size, ba_size]
  simp only [trimB]
  exact trimL_length _
theorem trimB_around (s : ByteArray) : trimB (⟨#[32, 9]⟩ ++ s ++ ⟨#[9, 32]⟩) = trimB s := by
  unfold trimB
  congr 2
  have := trimL_around s.data.toList [32, 9] [9, 32] (by decide) (by decide)
  rw [← this]
  simp
theorem foldB_low (a : ByteArray) : foldB a (lowB a) = true := by simp [foldB, lowB_lowB]
theorem foldB_comm (a b : ByteArray) : foldB a b = foldB b a := by
  unfold foldB
  rw [Bool.eq_iff_iff]
  simp
  exact ⟨Eq.symm, Eq.symm⟩
theorem foldB_trans {a b c : ByteArray} (h1 : foldB a b = true) (h2 : foldB b c = true) : foldB a c = true := by
  simp [foldB] at *
  rw [h1, h2]
theorem trimB_token {a : ByteArray} (h : tokenB a = true) : trimB a = a ∧ visibleB a = true ∧ allB valueB a = true := by
  simp only [tokenB, Bool.and_eq_true] at h
  obtain ⟨h0, h⟩ := h
  have hall : ∀ c ∈ a.data.toList, tcharB c.toNat = true := by
    unfold allB at h
    rw [List.all_eq_true] at h
    exact h
  have hlo : ∀ c ∈ a.data.toList, 33 ≤ c.toNat ∧ c.toNat ≤ 126 := fun c hc => tchar_low _ c.toNat_lt (hall c hc)
  refine ⟨?_, ?_, ?_⟩
  · refine (ba_eq a _ ?_).symm
    have ht : Tidy a.data.toList := by
      rcases List.eq_nil_or_concat a.data.toList with e | ⟨r, c, e⟩
      · exact .inl e
      · right
        rw [List.concat_eq_append] at e
        refine ⟨?_, r, c, e, ?_⟩
        · cases hx : a.data.toList with
          | nil => rw [hx] at e; simp at e
          | cons d m => exact ⟨d, m, rfl, by have := hlo d (by rw [hx]; simp); simp [blankC, blankN]; omega⟩
        · have := hlo c (by rw [e]; simp); simp [blankC, blankN]; omega
    exact (trimL_tidy _ ht).symm
  · simp only [visibleB, h0, Bool.true_and, allB, List.all_eq_true]
    intro c hc
    have := hlo c hc
    simp [visB, this]
  · simp only [allB, List.all_eq_true]
    intro c hc
    have := hlo c hc
    simp [valueB]; omega
theorem trimB_ends (s : ByteArray) (h : 0 < (trimB s).size) : blankN (bt (trimB s) 0) = false ∧ blankN (bt (trimB s) ((trimB s).size - 1)) = false := by
  obtain ⟨p, q, e, hp, hq, ht⟩ := trimL_part s.data.toList
  have hd : (trimB s).data.toList = trimL s.data.toList := by simp [trimB]
  rcases ht with ht | ⟨⟨c, r, h1, h2⟩, r', c', h3, h4⟩
  · rw [ba_len hd, ht] at h; simp at h
  · exact ⟨by rw [bt_cons (hd.trans h1)]; exact h2, by rw [bt_snoc (hd.trans h3)]; exact h4⟩

end Go.Proofs.YtggnnaafkekihaaDoor
