/- Layer 1: the program's own functions on octets. -/
import Derived.Test.YtahehpgnemanmaaOcts
import Derived.Lib.TrimU
namespace Go.Proofs.Ytahehpgnemanmaa
open Go.RowKit
set_option linter.unusedVariables false
set_option linter.unusedSimpArgs false

set_option maxHeartbeats 400000 in
theorem oct_tchar_any (n : Int) (w : World) (h0 : 0 ≤ n) (h1 : n ≤ 255) :
    Calls Try.prog 92 #[.int .u8 n] w fun e w' => e = .returned (.bool (tcharB n.toNat)) ∧ Below w.heap.size w w' := by
  by_cases hO : otherB n.toNat = true
  · have hnone := tchar_none n.toNat (by omega) hO
    have HN := Lib.hid hnone
    have ho := other_cases n h0 hO
    clear hnone hO
    rcases ho with ho | ⟨ho, ho'⟩ | ⟨ho, ho'⟩ | ho
    all_goals
      go_enter Try.func92, Try.ntmps92
      go_wp2
      rw [marksB_eq]
      go_loopw [4] (fun _ wr => ∃ k : Nat, k ≤ 15 ∧ wr = w.iter marksB k ∧ ∀ j, j < k → bt marksB j ≠ n.toNat) (fun _ wr => 15 - wr.iterPos w.heap.size)
      case atStart => exact ⟨0, by omega, rfl, fun j h => by omega⟩
      case round =>
        obtain ⟨k, hk, rfl, hf⟩ := hrel
        have HF := Lib.hid hf
        clear hf
        have hsz := marksB_size
        by_cases hlt : k < 15
        · have hb := bt_at marksB k (by rw [marksB_size]; omega)
          have htm := tchar_mark k hlt
          have hlo := marksB_low k hlt
          have HB := Lib.hid hb
          have HT := Lib.hid htm
          have hnx : ∀ ty, (Instr.next (.pointer (some ⟨w.heap.size, 0, none⟩)) true ty).run Try.prog (w.iter marksB k) = _ := fun ty => run_next_ascii w marksB k ty (by rw [marksB_size]; omega) (by rw [hb]; exact hlo)
          clear hb htm
          go_wp2
          · have hq : (n == (marksB[k].toNat : Int)) = true := by assumption
            go_ret
            refine ⟨ret_bool ?_, (Below.refl _ _).alloc (Nat.le_refl _) _⟩
            have hq2 : bt marksB k = n.toNat := by rw [← HB.out]; simp at hq; omega
            rw [← hq2, HT.out]
          · have hq : (n == (marksB[k].toNat : Int)) = false := by assumption
            go_roundw
            case rel =>
              refine ⟨k + 1, by omega, rfl, fun j hj => ?_⟩
              by_cases hjk : j < k
              · exact HF.out j hjk
              · obtain rfl : j = k := by omega
                rw [← HB.out]; simp at hq; omega
            case measure => simp; omega
        · have hnx : ∀ ty, (Instr.next (.pointer (some ⟨w.heap.size, 0, none⟩)) true ty).run Try.prog (w.iter marksB k) = _ := fun ty => run_next_end w marksB k ty (by rw [marksB_size]; omega)
          go_wp2
          go_ret
          exact ⟨ret_bool (HN.out fun j hj => HF.out j (by omega)).symm, (Below.refl _ _).alloc (Nat.le_refl _) _⟩
  · have hO' : otherB n.toNat = false := by simpa using hO
    have ht := tchar_alnum n.toNat (by omega) hO'
    have ho := alnum_cases n h0 hO'
    clear hO hO'
    rw [ht]
    clear ht
    rcases ho with ⟨ho, ho'⟩ | ⟨ho, ho'⟩ | ⟨ho, ho'⟩
    all_goals
      go_enter Try.func92, Try.ntmps92
      go_wp2
      go_ret
      exact ⟨rfl, Below.refl _ _⟩

/-! ### What is asked of each rune -/
def runeTok (n : Int) : Bool := decide (n < 128) && tcharB n.toNat
def runeVal (n : Int) : Bool := n == 9 || (decide (32 ≤ n) && n != 127)
def runeVis (n : Int) : Bool := decide (33 ≤ n) && decide (n ≤ 126)

set_option maxHeartbeats 400000 in
theorem fit_tok (n : Int) (w : World) (h0 : 0 ≤ n) (h1 : n ≤ 1114111) :
    Calls Try.prog 91 #[.int .i32 n] w fun e w' => e = .returned (.bool (runeTok n)) ∧ Below w.heap.size w w' := by
  by_cases hl : n < 128
  · have hr : runeTok n = tcharB n.toNat := by simp [runeTok, hl]
    rw [hr]
    clear hr
    go_enter Try.func91, Try.ntmps91
    go_wp2_with (go_at_call 92; refine (oct_tchar_any _ _ (by omega) (by omega)).mono ?_; rintro e w' ⟨rfl, hb⟩)
    go_ret
    exact ⟨rfl, hb⟩
  · have hr : runeTok n = false := by simp [runeTok, hl]
    rw [hr]
    clear hr
    go_enter Try.func91, Try.ntmps91
    go_wp2
    go_ret
    exact ⟨rfl, Below.refl _ _⟩

set_option maxHeartbeats 400000 in
theorem fit_val (n : Int) (w : World) (h0 : 0 ≤ n) (h1 : n ≤ 1114111) :
    Calls Try.prog 105 #[.int .i32 n] w fun e w' => e = .returned (.bool (runeVal n)) ∧ Below w.heap.size w w' := by
  go_enter Try.func105, Try.ntmps105
  go_wp2
  all_goals go_ret
  all_goals refine ⟨ret_bool ?_, Below.refl _ _⟩
  all_goals go_light
  all_goals (rw [Bool.eq_iff_iff]; simp [runeVal] at *; try omega)

theorem runeTok_low (n : Nat) (h : n < 128) : runeTok (n : Int) = tcharB n := by
  have : (n : Int) < 128 := by omega
  simp [runeTok, this]
theorem runeTok_high (n : Nat) (h : 128 ≤ n) : runeTok (n : Int) = false := by
  have : ¬ (n : Int) < 128 := by omega
  simp [runeTok, this]
theorem runeVal_low (n : Nat) (h : n < 128) : runeVal (n : Int) = valueB n := by
  rw [Bool.eq_iff_iff]; simp [runeVal, valueB]; omega
theorem runeVal_high (n : Nat) (h : 128 ≤ n) : runeVal (n : Int) = true := by
  simp [runeVal]; omega
theorem runeVis_low (n : Nat) (h : n < 128) : runeVis (n : Int) = visB n := by
  rw [Bool.eq_iff_iff]; simp [runeVis, visB]; omega
theorem runeVis_high (n : Nat) (h : 128 ≤ n) : runeVis (n : Int) = false := by
  simp [runeVis]; omega
theorem valueB_high (n : Nat) (h : 128 ≤ n) : valueB n = true := by simp [valueB]; omega
theorem visB_high (n : Nat) (h : 128 ≤ n) : visB n = false := by simp [visB]; omega

set_option maxHeartbeats 400000 in
theorem each_tok (s : ByteArray) (w : World) (hs : s.size ≤ maxLen) :
    Calls Try.prog 90 #[.string s, .func (.func 91) #[] #[]] w fun e w' => e = .returned (.bool (allB tcharB s)) ∧ Below w.heap.size w w' := by
  unfold maxLen at hs
  go_enter Try.func90, Try.ntmps90
  go_wp2
  go_loopw [6] (fun _ wr => ∃ pos : Nat, wr.heap[w.heap.size]? = some (.stringIter s pos) ∧ Below w.heap.size w wr ∧ ∀ j, j < pos → j < s.size → tcharB (bt s j) = true) (fun _ wr => s.size - wr.iterPos w.heap.size)
  case atStart => exact ⟨0, World.iter_heap _ _ _, (Below.refl _ _).alloc (Nat.le_refl _) _, fun j h => by omega⟩
  case round =>
    obtain ⟨pos, hit, hbel, hf⟩ := hrel
    have HF := Lib.hid hf
    have HB := Lib.hid hbel
    have HI := Lib.hid hit
    have hmeas : wr.iterPos w.heap.size = pos := by simp [World.iterPos, hit]
    have HM := Lib.hid hmeas
    have hlt0 : w.heap.size < wr.heap.size := (Array.getElem?_eq_some_iff.1 hit).1
    by_cases hlt : pos < s.size
    · have hnx : ∀ ty, (Instr.next (.pointer (some ⟨w.heap.size, 0, none⟩)) true ty).run Try.prog wr = _ := fun ty => Lib.run_next_any_at wr w.heap.size s pos ty hit hlt
      have hnew : ∀ p w', Below (wr.iterAt w.heap.size s p).heap.size (wr.iterAt w.heap.size s p) w' → w'.heap[w.heap.size]? = some (.stringIter s p) ∧ Below w.heap.size w w' := by
        intro p w' hb
        have hs1 := Lib.iterAt_size wr w.heap.size s p
        refine ⟨by rw [hb.block _ (by rw [hs1]; exact hlt0)]; exact Lib.iterAt_heap wr _ s pos p hit, ?_⟩
        exact (Lib.below_iterAt hbel (Nat.le_refl _) s p).trans (hb.mono (by rw [hs1]; omega))
      have HN := Lib.hid hnew
      clear hf hbel hit hmeas hnew
      have hd2 := decode_le s pos
      by_cases hlow : bt s pos < 128
      · have hdec := dec_low s pos hlt hlow
        have h127 : bt s pos ≤ 1114111 := by omega
        rw [hdec] at hnx
        clear hdec hd2
        go_wp2_with fail
        refine (fit_tok _ _ (by omega) (by omega)).mono ?_
        rintro e w' ⟨rfl, hb⟩
        rw [runeTok_low _ hlow]
        obtain ⟨hi', hb'⟩ := HN.out _ _ hb
        clear hb
        cases ht : tcharB (bt s pos)
        · go_wp2
          go_ret
          exact ⟨ret_bool (allB_false pos hlt ht).symm, hb'⟩
        · have HT := Lib.hid ht
          clear ht
          go_wp2
          go_roundw
          case rel =>
            refine ⟨pos + 1, hi', hb', fun j hj hj2 => ?_⟩
            by_cases hjk : j < pos
            · exact HF.out j hjk hj2
            · obtain rfl : j = pos := by omega
              exact HT.out
          case measure =>
            rw [HM.out]
            simp [World.iterPos, hi']
            omega
      · have hhi := dec_high s pos hlt (by omega)
        obtain ⟨hh1, hh2, hh3⟩ := hhi
        have HH := Lib.hid hh3
        have hmax : (Utf8.decode s pos).1 ≤ 1114111 := Lib.rune_le s pos
        clear hh3 hd2
        generalize Utf8.decode s pos = d at *
        obtain ⟨r, wd⟩ := d
        dsimp only at *
        go_wp2_with fail
        refine (fit_tok _ _ (by omega) (by omega)).mono ?_
        rintro e w' ⟨rfl, hb⟩
        rw [runeTok_high _ hh1]
        obtain ⟨hi', hb'⟩ := HN.out _ _ hb
        clear hb
        go_wp2
        go_ret
        exact ⟨ret_bool (allB_false pos hlt (tchar_high _ (by omega))).symm, hb'⟩
    · have hnx : ∀ ty, (Instr.next (.pointer (some ⟨w.heap.size, 0, none⟩)) true ty).run Try.prog wr = _ := fun ty => Lib.run_next_end_at wr w.heap.size s pos ty hit hlt
      clear hf hbel hit hmeas
      go_wp2
      go_ret
      exact ⟨ret_bool (allB_true fun j hj => HF.out j (by omega) hj).symm, HB.out⟩

set_option maxHeartbeats 400000 in
theorem each_val (s : ByteArray) (w : World) (hs : s.size ≤ maxLen) :
    Calls Try.prog 90 #[.string s, .func (.func 105) #[] #[]] w fun e w' => e = .returned (.bool (allB valueB s)) ∧ Below w.heap.size w w' := by
  unfold maxLen at hs
  go_enter Try.func90, Try.ntmps90
  go_wp2
  go_loopw [6] (fun _ wr => ∃ pos : Nat, wr.heap[w.heap.size]? = some (.stringIter s pos) ∧ Below w.heap.size w wr ∧ ∀ j, j < pos → j < s.size → valueB (bt s j) = true) (fun _ wr => s.size - wr.iterPos w.heap.size)
  case atStart => exact ⟨0, World.iter_heap _ _ _, (Below.refl _ _).alloc (Nat.le_refl _) _, fun j h => by omega⟩
  case round =>
    obtain ⟨pos, hit, hbel, hf⟩ := hrel
    have HF := Lib.hid hf
    have HB := Lib.hid hbel
    have HI := Lib.hid hit
    have hmeas : wr.iterPos w.heap.size = pos := by simp [World.iterPos, hit]
    have HM := Lib.hid hmeas
    have hlt0 : w.heap.size < wr.heap.size := (Array.getElem?_eq_some_iff.1 hit).1
    by_cases hlt : pos < s.size
    · have hnx : ∀ ty, (Instr.next (.pointer (some ⟨w.heap.size, 0, none⟩)) true ty).run Try.prog wr = _ := fun ty => Lib.run_next_any_at wr w.heap.size s pos ty hit hlt
      have hnew : ∀ p w', Below (wr.iterAt w.heap.size s p).heap.size (wr.iterAt w.heap.size s p) w' → w'.heap[w.heap.size]? = some (.stringIter s p) ∧ Below w.heap.size w w' := by
        intro p w' hb
        have hs1 := Lib.iterAt_size wr w.heap.size s p
        refine ⟨by rw [hb.block _ (by rw [hs1]; exact hlt0)]; exact Lib.iterAt_heap wr _ s pos p hit, ?_⟩
        exact (Lib.below_iterAt hbel (Nat.le_refl _) s p).trans (hb.mono (by rw [hs1]; omega))
      have HN := Lib.hid hnew
      clear hf hbel hit hmeas hnew
      have hd2 := decode_le s pos
      by_cases hlow : bt s pos < 128
      · have hdec := dec_low s pos hlt hlow
        have h127 : bt s pos ≤ 1114111 := by omega
        rw [hdec] at hnx
        clear hdec hd2
        go_wp2_with fail
        refine (fit_val _ _ (by omega) (by omega)).mono ?_
        rintro e w' ⟨rfl, hb⟩
        rw [runeVal_low _ hlow]
        obtain ⟨hi', hb'⟩ := HN.out _ _ hb
        clear hb
        cases ht : valueB (bt s pos)
        · go_wp2
          go_ret
          exact ⟨ret_bool (allB_false pos hlt ht).symm, hb'⟩
        · have HT := Lib.hid ht
          clear ht
          go_wp2
          go_roundw
          case rel =>
            refine ⟨pos + 1, hi', hb', fun j hj hj2 => ?_⟩
            by_cases hjk : j < pos
            · exact HF.out j hjk hj2
            · obtain rfl : j = pos := by omega
              exact HT.out
          case measure =>
            rw [HM.out]
            simp [World.iterPos, hi']
            omega
      · have hhi := dec_high s pos hlt (by omega)
        obtain ⟨hh1, hh2, hh3⟩ := hhi
        have HH := Lib.hid hh3
        have hmax : (Utf8.decode s pos).1 ≤ 1114111 := Lib.rune_le s pos
        clear hh3 hd2
        generalize Utf8.decode s pos = d at *
        obtain ⟨r, wd⟩ := d
        dsimp only at *
        go_wp2_with fail
        refine (fit_val _ _ (by omega) (by omega)).mono ?_
        rintro e w' ⟨rfl, hb⟩
        rw [runeVal_high _ hh1]
        obtain ⟨hi', hb'⟩ := HN.out _ _ hb
        clear hb
        go_wp2
        go_roundw
        case rel =>
          refine ⟨pos + wd, hi', hb', fun j hj hj2 => ?_⟩
          by_cases hjk : j < pos
          · exact HF.out j hjk hj2
          · exact valueB_high _ (HH.out j (by omega) hj).2
        case measure =>
          rw [HM.out]
          simp [World.iterPos, hi']
          omega
    · have hnx : ∀ ty, (Instr.next (.pointer (some ⟨w.heap.size, 0, none⟩)) true ty).run Try.prog wr = _ := fun ty => Lib.run_next_end_at wr w.heap.size s pos ty hit hlt
      clear hf hbel hit hmeas
      go_wp2
      go_ret
      exact ⟨ret_bool (allB_true fun j hj => HF.out j (by omega) hj).symm, HB.out⟩

theorem nonempty_of (s : ByteArray) (h : s.size ≠ 0) : s.data.toList.isEmpty = false := by
  cases hl : s.data.toList with
  | nil => rw [ba_len hl] at h; simp at h
  | cons a r => rfl

theorem tokenB_nil {s : ByteArray} (h : s.toList = []) : false = tokenB s := by
  rw [ByteArray.toList_eq] at h
  simp [tokenB, h]
theorem tokenB_eq (s : ByteArray) : (!s.toList.isEmpty && allB tcharB s) = tokenB s := by rw [tokenB, ByteArray.toList_eq]
theorem visibleB_nil {s : ByteArray} (h : s.toList = []) : false = visibleB s := by
  rw [ByteArray.toList_eq] at h
  simp [visibleB, h]
theorem visibleB_eq (s : ByteArray) : (!s.toList.isEmpty && allB visB s) = visibleB s := by rw [visibleB, ByteArray.toList_eq]

set_option maxHeartbeats 400000 in
theorem oct_token_any (s : ByteArray) (w : World) (hs : s.size ≤ maxLen) :
    Calls Try.prog 60 #[.string s] w fun e w' => e = .returned (.bool (tokenB s)) ∧ Below w.heap.size w w' := by
  go_enter Try.func60, Try.ntmps60
  go_wp2_with (go_at_call 90; refine (each_tok _ _ hs).mono ?_; rintro e w' ⟨rfl, hb⟩)
  · go_ret
    exact ⟨ret_bool (tokenB_nil ‹_›), Below.refl _ _⟩
  · go_ret
    exact ⟨ret_bool (tokenB_eq s), hb⟩

set_option maxHeartbeats 400000 in
theorem oct_value_any (s : ByteArray) (w : World) (hs : s.size ≤ maxLen) :
    Calls Try.prog 89 #[.string s] w fun e w' => e = .returned (.bool (allB valueB s)) ∧ Below w.heap.size w w' := by
  go_enter Try.func89, Try.ntmps89
  go_wp2_with (go_at_call 90; refine (each_val _ _ hs).mono ?_; rintro e w' ⟨rfl, hb⟩)
  go_ret
  exact ⟨rfl, hb⟩

end Go.Proofs.Ytahehpgnemanmaa
