/- Texts read from their beginning: Skip, Token, Until, and the document's. -/
import Derived.Test.YtjocmjmfkgogiaaCuc
import Derived.Test.YtjocmjmfkgogiaaPc
namespace Go.Proofs.Ytjocmjmfkgogiaa
open Go.RowKit
set_option linter.unusedVariables false
set_option linter.unusedSimpArgs false

theorem b_eq {a b : Bool} (h : a = true ↔ b = true) : a = b := by rwa [Bool.eq_iff_iff]
theorem pre_up (P : Nat → Bool) (x : ByteArray) : (upB x (preN P x)).size = preN P x := by rw [upB_size]; have := preN_le P x; omega

theorem blank_any (c : Nat) (w : World) (hc : c < 256) :
    Calls Try.prog 56 #[.int .u8 c] w fun e w' => e = .returned (.bool (blankN c)) ∧ Below w.heap.size w w' := by
  go_enter Try.func56, Try.ntmps56
  go_wp2
  all_goals go_ret
  all_goals refine ⟨ret_bool (b_eq ?_), Below.refl _ _⟩
  all_goals go_light
  all_goals (simp [blankN] at *; try omega)
theorem callF_blank (args : Array Value) (w : World) : (callFunc 56 args).run Try.prog w = .ok (.enter 56 args) w := by kernel_rfl
theorem callF_tchar (args : Array Value) (w : World) : (callFunc 58 args).run Try.prog w = .ok (.enter 58 args) w := by kernel_rfl
theorem callF_other (args : Array Value) (w : World) : (callFunc 59 args).run Try.prog w = .ok (.enter 59 args) w := by kernel_rfl
theorem other_any (b : Int) (c : Nat) (w : World) (hc : c < 256) :
    Calls Try.prog 59 #[.int .u8 b, .int .u8 c] w fun e w' => e = .returned (.bool ((c : Int) != b)) ∧ Below w.heap.size w w' := by
  go_enter Try.func59, Try.ntmps59
  go_wp2
  go_ret
  exact ⟨ret_bool (by rw [Bool.eq_iff_iff]; simp; omega), Below.refl _ _⟩

theorem cur_skip (b n : Nat) (s : ByteArray) (w : World) (h : CurAt b s n w) :
    Calls Try.prog 16 #[.pointer (some ⟨b, 0, none⟩)] w fun e w' => e = .returned (.int .i64 (preN blankN (fromB s n))) ∧ CurTo b s (n + preN blankN (fromB s n)) w w' := by
  have HC := Lib.hid h
  have hp := pre_up blankN (fromB s n)
  have HP := Lib.hid hp
  clear h hp
  go_enter Try.func16, Try.ntmps16
  go_wp2_with fail
  refine (cur_while 56 #[] blankN (fun c w hc => blank_any c w hc) callF_blank _ _ _ _ HC.out).mono ?_
  rintro e w1 ⟨rfl, ht⟩
  have HT := Lib.hid ht
  clear ht
  go_wp2_with fail
  go_ret
  exact ⟨ret_int (by rw [HP.out]), HT.out⟩
theorem cur_token (b n : Nat) (s : ByteArray) (w : World) (h : CurAt b s n w) :
    Calls Try.prog 18 #[.pointer (some ⟨b, 0, none⟩)] w fun e w' => e = .returned (.string (upB (fromB s n) (preN tcharB (fromB s n)))) ∧ CurTo b s (n + preN tcharB (fromB s n)) w w' := by
  have HC := Lib.hid h
  clear h
  go_enter Try.func18, Try.ntmps18
  go_wp2_with fail
  refine (cur_while 58 #[] tcharB (fun c w hc => (oct_tchar_any c w (by omega) (by omega)).mono fun e w' h => h) callF_tchar _ _ _ _ HC.out).mono ?_
  rintro e w1 ⟨rfl, ht⟩
  have HT := Lib.hid ht
  clear ht
  go_wp2_with fail
  go_ret
  exact ⟨rfl, HT.out⟩
def notB (c : Int) (n : Nat) : Bool := (n : Int) != c
theorem cur_until (b n : Nat) (s : ByteArray) (c : Int) (w : World) (h : CurAt b s n w) :
    Calls Try.prog 20 #[.pointer (some ⟨b, 0, none⟩), .int .u8 c] w fun e w' => e = .returned (.string (upB (fromB s n) (preN (notB c) (fromB s n)))) ∧ CurTo b s (n + preN (notB c) (fromB s n)) w w' := by
  have HC := Lib.hid h
  clear h
  have hmf : ∀ (fn : Fn) (first cap : Array Value) (w : World), (Instr.makeFunc fn first cap).run Try.prog w = .ok (.func fn first cap) w := fun _ _ _ _ => rfl
  go_enter Try.func20, Try.ntmps20
  go_wp2_with fail
  refine (cur_while 59 #[.int .u8 c] (notB c) (fun d w hc => other_any c d w hc) callF_other _ _ _ _ HC.out).mono ?_
  rintro e w1 ⟨rfl, ht⟩
  have HT := Lib.hid ht
  clear ht
  go_wp2_with fail
  go_ret
  exact ⟨rfl, HT.out⟩

set_option maxHeartbeats 800000 in
theorem cur_while_none (F : FuncId) (first : Array Value) (w : World) :
    Calls Try.prog 55 #[.pointer none, .func (.func F) first #[]] w fun e w' => e = .returned (.string ⟨#[]⟩) ∧ Below w.heap.size w w' := by
  go_enter Try.func55, Try.ntmps55
  go_wp2_with fail
  refine (cur_left_none _).mono ?_
  rintro e w1 ⟨rfl, hb1⟩
  have HB := Lib.hid hb1
  clear hb1
  go_wp2_with fail
  go_loop [6] (fun i => i = .int .i64 0) (fun i => 0)
  case atStart => rfl
  case round =>
    obtain rfl := hrel
    go_wp2_with fail
    go_ret
    exact ⟨rfl, HB.out⟩
theorem cur_skip_none (w : World) :
    Calls Try.prog 16 #[.pointer none] w fun e w' => e = .returned (.int .i64 0) ∧ Below w.heap.size w w' := by
  go_enter Try.func16, Try.ntmps16
  go_wp2_with fail
  refine (cur_while_none _ _ _).mono ?_
  rintro e w1 ⟨rfl, hb⟩
  go_wp2_with fail
  go_ret
  exact ⟨rfl, hb⟩
theorem cur_token_none (w : World) :
    Calls Try.prog 18 #[.pointer none] w fun e w' => e = .returned (.string ⟨#[]⟩) ∧ Below w.heap.size w w' := by
  go_enter Try.func18, Try.ntmps18
  go_wp2_with fail
  refine (cur_while_none _ _ _).mono ?_
  rintro e w1 ⟨rfl, hb⟩
  go_wp2_with fail
  go_ret
  exact ⟨rfl, hb⟩
theorem cur_until_none (c : Int) (w : World) :
    Calls Try.prog 20 #[.pointer none, .int .u8 c] w fun e w' => e = .returned (.string ⟨#[]⟩) ∧ Below w.heap.size w w' := by
  have hmf : ∀ (fn : Fn) (first cap : Array Value) (w : World), (Instr.makeFunc fn first cap).run Try.prog w = .ok (.func fn first cap) w := fun _ _ _ _ => rfl
  go_enter Try.func20, Try.ntmps20
  go_wp2_with fail
  refine (cur_while_none _ _ _).mono ?_
  rintro e w1 ⟨rfl, hb⟩
  go_wp2_with fail
  go_ret
  exact ⟨rfl, hb⟩

/-! ### The document's -/
set_option maxRecDepth 100000 in
set_option maxHeartbeats 800000 in
theorem ref_skip_any (x : ByteArray) (w : World) (hs : x.size ≤ maxLen) :
    Calls Try.prog 15 #[.string x] w fun e w' => e = .returned (.int .i64 (preN blankN x)) ∧ w = w' := by
  unfold maxLen at hs
  go_enter Try.func15, Try.ntmps15
  go_wp2_with fail
  go_loop [3] (fun i => ∃ k : Nat, k ≤ x.size ∧ i = .int .i64 k ∧ ∀ j, j < k → blankN (bt x j) = true) (fun i => x.size - (intOf i).toNat)
  case atStart => exact ⟨0, by omega, rfl, fun j h => by omega⟩
  case round =>
    obtain ⟨k, hk, rfl, hp⟩ := hrel
    have HP := Lib.hid hp
    clear hp
    by_cases hlt : k < x.size
    · have hbt := bt_at x k hlt
      have hway : bt x k = 32 ∨ (bt x k ≠ 32 ∧ bt x k = 9) ∨ (bt x k ≠ 32 ∧ bt x k ≠ 9) := by omega
      rcases hway with hw | ⟨hw, hw2⟩ | ⟨hw, hw2⟩
      · have e1 : ((x[k].toNat : Int) == 32) = true := by rw [hbt, hw]; rfl
        have HT := Lib.hid (show blankN (bt x k) = true by rw [hw]; rfl)
        clear hbt hw
        go_wp2_with fail
        go_round
        case rel => exact ⟨k + 1, by omega, by go_num, fun j hj => by
          by_cases hjk : j < k
          · exact HP.out j hjk
          · obtain rfl : j = k := by omega
            exact HT.out⟩
        case measure => simp [intOf]; omega
      · have e1 : ((x[k].toNat : Int) == 32) = false := by rw [hbt, beq_eq_false_iff_ne]; omega
        have e2 : ((x[k].toNat : Int) == 9) = true := by rw [hbt, hw2]; rfl
        have HT := Lib.hid (show blankN (bt x k) = true by rw [hw2]; rfl)
        clear hbt hw hw2
        go_wp2_with fail
        go_round
        case rel => exact ⟨k + 1, by omega, by go_num, fun j hj => by
          by_cases hjk : j < k
          · exact HP.out j hjk
          · obtain rfl : j = k := by omega
            exact HT.out⟩
        case measure => simp [intOf]; omega
      · have e1 : ((x[k].toNat : Int) == 32) = false := by rw [hbt, beq_eq_false_iff_ne]; omega
        have e2 : ((x[k].toNat : Int) == 9) = false := by rw [hbt, beq_eq_false_iff_ne]; omega
        have HT := Lib.hid (show blankN (bt x k) = false by simp [blankN]; omega)
        clear hbt hw hw2
        go_wp2_with fail
        go_ret
        exact ⟨ret_int (by rw [preN_of hk HP.out (.inr ⟨hlt, HT.out⟩)]), rfl⟩
    · have HK := Lib.hid (show k = x.size by omega)
      go_wp2_with fail
      go_ret
      exact ⟨ret_int (by rw [preN_of hk HP.out (.inl HK.out)]), rfl⟩

set_option maxRecDepth 100000 in
set_option maxHeartbeats 800000 in
theorem ref_token4_any (x : ByteArray) (w : World) (hs : x.size ≤ maxLen) :
    Calls Try.prog 17 #[.string x] w fun e w' => e = .returned (.int .i64 (preN tcharB x)) ∧ w = w' := by
  unfold maxLen at hs
  go_enter Try.func17, Try.ntmps17
  go_wp2_with fail
  go_loop [3] (fun i => ∃ k : Nat, k ≤ x.size ∧ i = .int .i64 k ∧ ∀ j, j < k → tcharB (bt x j) = true) (fun i => x.size - (intOf i).toNat)
  case atStart => exact ⟨0, by omega, rfl, fun j h => by omega⟩
  case round =>
    obtain ⟨k, hk, rfl, hp⟩ := hrel
    have HP := Lib.hid hp
    clear hp
    by_cases hlt : k < x.size
    · have HBT := Lib.hid (bt_at x k hlt)
      have h256 := bt_lt x k
      go_wp2_with fail
      rw [HBT.out]
      refine (ref_tchar_any _ _ (by omega) (by omega)).mono ?_
      rintro e w' ⟨rfl, rfl⟩
      rw [Int.toNat_natCast]
      cases ht : tcharB (bt x k)
      · have HT := Lib.hid ht
        clear ht
        go_wp2_with fail
        go_ret
        exact ⟨ret_int (by rw [preN_of hk HP.out (.inr ⟨hlt, HT.out⟩)]), rfl⟩
      · have HT := Lib.hid ht
        clear ht
        go_wp2_with fail
        go_round
        case rel => exact ⟨k + 1, by omega, by go_num, fun j hj => by
          by_cases hjk : j < k
          · exact HP.out j hjk
          · obtain rfl : j = k := by omega
            exact HT.out⟩
        case measure => simp [intOf]; omega
    · have HK := Lib.hid (show k = x.size by omega)
      go_wp2_with fail
      go_ret
      exact ⟨ret_int (by rw [preN_of hk HP.out (.inl HK.out)]), rfl⟩

set_option maxRecDepth 100000 in
set_option maxHeartbeats 800000 in
theorem ref_until_any (x : ByteArray) (c : Int) (w : World) (hs : x.size ≤ maxLen) :
    Calls Try.prog 19 #[.string x, .int .u8 c] w fun e w' => e = .returned (.int .i64 (preN (notB c) x)) ∧ w = w' := by
  unfold maxLen at hs
  go_enter Try.func19, Try.ntmps19
  go_wp2_with fail
  go_loop [5] (fun i => ∃ k : Nat, k ≤ x.size ∧ i = .int .i64 k ∧ ∀ j, j < k → notB c (bt x j) = true) (fun i => x.size - (intOf i).toNat)
  case atStart => exact ⟨0, by omega, rfl, fun j h => by omega⟩
  case round =>
    obtain ⟨k, hk, rfl, hp⟩ := hrel
    have HP := Lib.hid hp
    clear hp
    by_cases hlt : k < x.size
    · have hbt := bt_at x k hlt
      cases ht : notB c (bt x k)
      · have HT := Lib.hid ht
        have e1 : ((x[k].toNat : Int) != c) = false := by rw [hbt]; exact ht
        clear ht hbt
        go_wp2_with fail
        go_ret
        exact ⟨ret_int (by rw [preN_of hk HP.out (.inr ⟨hlt, HT.out⟩)]), rfl⟩
      · have HT := Lib.hid ht
        have e1 : ((x[k].toNat : Int) != c) = true := by rw [hbt]; exact ht
        clear ht hbt
        go_wp2_with fail
        go_round
        case rel => exact ⟨k + 1, by omega, by go_num, fun j hj => by
          by_cases hjk : j < k
          · exact HP.out j hjk
          · obtain rfl : j = k := by omega
            exact HT.out⟩
        case measure => simp [intOf]; omega
    · have HK := Lib.hid (show k = x.size by omega)
      go_wp2_with fail
      go_ret
      exact ⟨ret_int (by rw [preN_of hk HP.out (.inl HK.out)]), rfl⟩
end Go.Proofs.Ytjocmjmfkgogiaa
