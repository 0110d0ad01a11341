/- Layer 2: numbers read. -/
import Derived.Test.YtahehpgnemanmaaProg
import Derived.Test.YtahehpgnemanmaaPc
import Derived.WalkSpells
import Derived.WalkLawsBesides
import Derived.Deep.Light
import Derived.Lib.TrimU
namespace Go.Proofs.Ytahehpgnemanmaa
open Go.RowKit
set_option linter.unusedVariables false
set_option linter.unusedSimpArgs false

set_option maxHeartbeats 400000 in
theorem ref_value2_any (n : Int) (w : World) (h0 : 0 ≤ n) (h1 : n ≤ 255) :
    Calls Try.prog 72 #[.int .u8 n] w fun e w' => e = .returned (.int .i64 (digV n.toNat : Nat)) ∧ w = w' := by
  have hc : (48 ≤ n ∧ n ≤ 57 ∧ ((digV n.toNat : Nat) : Int) = n - 48) ∨ (65 ≤ n ∧ n ≤ 70 ∧ ((digV n.toNat : Nat) : Int) = n - 55) ∨ (97 ≤ n ∧ n ≤ 102 ∧ ((digV n.toNat : Nat) : Int) = n - 87) ∨
      ((n < 48 ∨ 57 < n ∧ n < 65 ∨ 70 < n ∧ n < 97 ∨ 102 < n) ∧ ((digV n.toNat : Nat) : Int) = 99) := by
    unfold digV
    by_cases h1 : 48 ≤ n.toNat ∧ n.toNat ≤ 57
    · rw [if_pos h1]; omega
    · rw [if_neg h1]
      by_cases h2 : 65 ≤ n.toNat ∧ n.toNat ≤ 70
      · rw [if_pos h2]; omega
      · rw [if_neg h2]
        by_cases h3 : 97 ≤ n.toNat ∧ n.toNat ≤ 102
        · rw [if_pos h3]; omega
        · rw [if_neg h3]; omega
  rcases hc with ⟨g1, g2, e⟩ | ⟨g1, g2, e⟩ | ⟨g1, g2, e⟩ | ⟨g | ⟨g, g'⟩ | ⟨g, g'⟩ | g, e⟩
  all_goals
    rw [e]
    clear e
    go_enter Try.func72, Try.ntmps72
    go_wp2
    go_ret
    exact ⟨rfl, rfl⟩

set_option maxHeartbeats 400000 in
theorem digit_any (n : Int) (w : World) (h0 : 0 ≤ n) (h1 : n ≤ 1114111) :
    Calls Try.prog 97 #[.int .i32 n] w fun e w' => e = .returned (.int .i64 (digI n)) ∧ w = w' := by
  have hc : (48 ≤ n ∧ n ≤ 57 ∧ digI n = n - 48) ∨ (97 ≤ n ∧ n ≤ 102 ∧ digI n = n - 97 + 10) ∨ (65 ≤ n ∧ n ≤ 70 ∧ digI n = n - 65 + 10) ∨
      ((n < 48 ∨ 57 < n ∧ n < 65 ∨ 70 < n ∧ n < 97 ∨ 102 < n) ∧ digI n = -1) := by
    unfold digI
    by_cases h1 : 48 ≤ n ∧ n ≤ 57
    · rw [if_pos h1]; omega
    · rw [if_neg h1]
      by_cases h2 : 97 ≤ n ∧ n ≤ 102
      · rw [if_pos h2]; omega
      · rw [if_neg h2]
        by_cases h3 : 65 ≤ n ∧ n ≤ 70
        · rw [if_pos h3]; omega
        · rw [if_neg h3]; omega
  rcases hc with ⟨g1, g2, e⟩ | ⟨g1, g2, e⟩ | ⟨g1, g2, e⟩ | ⟨g | ⟨g, g'⟩ | ⟨g, g'⟩ | g, e⟩
  all_goals
    rw [e]
    clear e
    go_enter Try.func97, Try.ntmps97
    go_wp2
    go_ret
    exact ⟨rfl, rfl⟩

/-- What is kept while a number to the base 10 is read. -/
def ReadKeeps10 (s : ByteArray) (v8 v9 : Value) (pos : Nat) : Prop :=
  pos ≤ s.size ∧ (∀ j, j < pos → digV (bt s j) < 10) ∧
  ((v9 = .bool false ∧ ((valN 10 (s.data.toList.take pos) : Nat) : Int) ≤ 9223372036854775807 ∧ v8 = .int .i64 ((valN 10 (s.data.toList.take pos) : Nat) : Int)) ∨
   (v9 = .bool true ∧ 9223372036854775807 < ((valN 10 (s.data.toList.take pos) : Nat) : Int) ∧ ∃ n : Int, 0 ≤ n ∧ n ≤ 9223372036854775807 ∧ v8 = .int .i64 n))

set_option maxHeartbeats 1000000 in
theorem read_10_any (s : ByteArray) (most : Int) (w : World) (hs : s.size ≤ maxLen) (hm0 : -9223372036854775808 ≤ most) (hm1 : most ≤ 9223372036854775807) :
    Calls Try.prog 70 #[.string s, .int .i64 10, .int .i64 most] w fun e w' => e = .returned (.tuple #[.int .i64 (numV 10 s most), .int .i64 (numE 10 s most)]) ∧ Below w.heap.size w w' := by
  unfold maxLen at hs
  by_cases h0 : s.size = 0
  · have hn := num_empty (b := 10) (most := most) h0
    rw [hn.1, hn.2]
    clear hn
    have hl : s.toList = [] := by rw [ByteArray.toList_eq]; exact List.length_eq_zero_iff.1 (by rw [← ba_size]; exact h0)
    clear h0
    go_enter Try.func70, Try.ntmps70
    go_wp2
    go_ret2
    exact ⟨rfl, Below.refl _ _⟩
  · have H0 := Lib.hid h0
    have hl : s.toList.isEmpty = false := by
      rw [ByteArray.toList_eq]
      cases hx : s.data.toList with
      | nil => exact absurd (ba_len hx) h0
      | cons a r => rfl
    clear h0
    go_enter Try.func70, Try.ntmps70
    go_wp2
    go_loopw [8, 9, 11, 12] (fun v8 v9 _ _ wr => ∃ pos : Nat, wr = w.iter s pos ∧ ReadKeeps10 s v8 v9 pos) (fun _ _ _ _ wr => s.size - wr.iterPos w.heap.size)
    case atStart => exact ⟨0, rfl, Nat.zero_le _, fun j h => by omega, .inl ⟨rfl, by simp [valN], by simp [valN]⟩⟩
    case round =>
      obtain ⟨pos, rfl, hp, hok, hkeep⟩ := hrel
      have HOK := Lib.hid hok
      clear hok
      by_cases hlt : pos < s.size
      · have hnx : ∀ ty, (Instr.next (.pointer (some ⟨w.heap.size, 0, none⟩)) true ty).run Try.prog (w.iter s pos) = _ := fun ty => run_next_any w s pos ty hlt
        by_cases hd : digV (bt s pos) < 10
        · have hlow : bt s pos < 128 := by
            by_cases h : bt s pos < 128
            · exact h
            · rw [digV_high _ (by omega)] at hd; omega
          rw [dec_low s pos hlt hlow] at hnx
          have h255 := bt_lt s pos
          have hdi := digI_eq (bt s pos) 10 (by omega) hd
          have HDI := Lib.hid hdi
          clear hdi
          go_wp2_with fail
          refine (digit_any _ _ (by omega) (by omega)).mono ?_
          rintro e w' ⟨rfl, rfl⟩
          rw [HDI.out]
          have hv := valN_take 10 s pos hlt
          have HV := Lib.hid hv
          clear hv
          generalize hdd : digV (bt s pos) = d at *
          have HDD := Lib.hid hdd
          clear hdd
          have hok2 : ∀ j, j < pos + 1 → digV (bt s j) < 10 := fun j hj => by
            by_cases hjp : j < pos
            · exact HOK.out j hjp
            · obtain rfl : j = pos := by omega
              rw [HDD.out]; exact hd
          have HOK2 := Lib.hid hok2
          clear hok2
          rcases hkeep with ⟨rfl, hle, rfl⟩ | ⟨rfl, hgt, n, hn0, hn1, rfl⟩
          · have hvn : ((valN 10 (s.data.toList.take (pos + 1)) : Nat) : Int) = (valN 10 (s.data.toList.take pos) : Nat) * 10 + d := by rw [HV.out]; simp
            have HVN := Lib.hid hvn
            clear hvn
            generalize valN 10 (s.data.toList.take pos) = m at *
            by_cases hfit : (m : Int) * 10 + d ≤ 9223372036854775807
            · have hq : (m : Int) ≤ (9223372036854775807 - (d : Int)) / 10 := by omega
              go_wp2
              go_roundw
              case rel => exact ⟨pos + 1, rfl, hlt, HOK2.out, .inl ⟨rfl, by rw [HVN.out]; exact hfit, by rw [HVN.out]⟩⟩
              case measure => simp; omega
            · have hq : (9223372036854775807 - (d : Int)) / 10 < (m : Int) := by omega
              go_wp2
              go_roundw
              case rel => exact ⟨pos + 1, rfl, hlt, HOK2.out, .inr ⟨rfl, by rw [HVN.out]; omega, m, by omega, by omega, rfl⟩⟩
              case measure => simp; omega
          · have hvn : 9223372036854775807 < ((valN 10 (s.data.toList.take (pos + 1)) : Nat) : Int) := by rw [HV.out]; omega
            have HVN := Lib.hid hvn
            clear hvn hgt
            by_cases hq : n ≤ (9223372036854775807 - (d : Int)) / 10
            · go_wp2
              go_roundw
              case rel => exact ⟨pos + 1, rfl, hlt, HOK2.out, .inr ⟨rfl, HVN.out, n, by omega, by omega, rfl⟩⟩
              case measure => simp; omega
            · have hq' : (9223372036854775807 - (d : Int)) / 10 < n := by omega
              clear hq
              go_wp2
              go_roundw
              case rel => exact ⟨pos + 1, rfl, hlt, HOK2.out, .inr ⟨rfl, HVN.out, n, by omega, by omega, rfl⟩⟩
              case measure => simp; omega
        · have hnum := num_form (b := 10) (most := most) pos hlt (by omega)
          have HN := Lib.hid hnum
          clear hnum
          have hdi : digI ((Utf8.decode s pos).1 : Int) < 0 ∨ 10 ≤ digI ((Utf8.decode s pos).1 : Int) := by
            by_cases hlow : bt s pos < 128
            · rw [dec_low s pos hlt hlow]
              exact (digI_digV (bt s pos) 10 (by omega)).2 (by omega)
            · rw [digI_high _ (dec_high s pos hlt (by omega)).1]; omega
          have hdr := digI_range ((Utf8.decode s pos).1 : Int)
          have hmax : (Utf8.decode s pos).1 ≤ 1114111 := Lib.rune_le s pos
          clear hd
          generalize Utf8.decode s pos = dd at *
          obtain ⟨r, wd⟩ := dd
          dsimp only at *
          go_wp2_with fail
          refine (digit_any _ _ (by omega) (by omega)).mono ?_
          rintro e w' ⟨rfl, rfl⟩
          generalize digI (r : Int) = d at *
          rcases hkeep with ⟨rfl, hle, rfl⟩ | ⟨rfl, hgt, n, hn0, hn1, rfl⟩
          all_goals
            rcases hdi with hdi | hdi
            all_goals first
              | (exfalso; omega)
              | (go_wp2
                 go_ret2
                 exact ⟨ret_two HN.out, (Below.refl _ _).alloc (Nat.le_refl _) _⟩)
      · have hnx : ∀ ty, (Instr.next (.pointer (some ⟨w.heap.size, 0, none⟩)) true ty).run Try.prog (w.iter s pos) = _ := fun ty => run_next_end w s pos ty hlt
        have hall : s.data.toList.take pos = s.data.toList := List.take_of_length_le (by rw [← ba_size]; omega)
        have hokA : ∀ j, j < s.size → digV (bt s j) < 10 := fun j hj => HOK.out j (by omega)
        rw [hall] at hkeep
        clear hall
        rcases hkeep with ⟨rfl, hle, rfl⟩ | ⟨rfl, hgt, n, hn0, hn1, rfl⟩
        · by_cases hmm : (valN 10 s.data.toList : Int) ≤ most
          · have HN := Lib.hid (num_fits H0.out hokA hmm)
            clear hokA
            generalize valN 10 s.data.toList = m at *
            go_wp2
            go_ret2
            exact ⟨ret_two HN.out, (Below.refl _ _).alloc (Nat.le_refl _) _⟩
          · have HN := Lib.hid (num_great H0.out hokA (most := most) (by omega))
            clear hokA
            generalize valN 10 s.data.toList = m at *
            have hmm' : most < (m : Int) := by omega
            clear hmm
            go_wp2
            go_ret2
            exact ⟨ret_two HN.out, (Below.refl _ _).alloc (Nat.le_refl _) _⟩
        · have HN := Lib.hid (num_great H0.out hokA (most := most) (by omega))
          clear hokA hgt
          go_wp2
          go_ret2
          exact ⟨ret_two HN.out, (Below.refl _ _).alloc (Nat.le_refl _) _⟩

/-- What is kept while a number to the base 16 is read. -/
def ReadKeeps16 (s : ByteArray) (v8 v9 : Value) (pos : Nat) : Prop :=
  pos ≤ s.size ∧ (∀ j, j < pos → digV (bt s j) < 16) ∧
  ((v9 = .bool false ∧ ((valN 16 (s.data.toList.take pos) : Nat) : Int) ≤ 9223372036854775807 ∧ v8 = .int .i64 ((valN 16 (s.data.toList.take pos) : Nat) : Int)) ∨
   (v9 = .bool true ∧ 9223372036854775807 < ((valN 16 (s.data.toList.take pos) : Nat) : Int) ∧ ∃ n : Int, 0 ≤ n ∧ n ≤ 9223372036854775807 ∧ v8 = .int .i64 n))

set_option maxHeartbeats 1000000 in
theorem read_16_any (s : ByteArray) (most : Int) (w : World) (hs : s.size ≤ maxLen) (hm0 : -9223372036854775808 ≤ most) (hm1 : most ≤ 9223372036854775807) :
    Calls Try.prog 70 #[.string s, .int .i64 16, .int .i64 most] w fun e w' => e = .returned (.tuple #[.int .i64 (numV 16 s most), .int .i64 (numE 16 s most)]) ∧ Below w.heap.size w w' := by
  unfold maxLen at hs
  by_cases h0 : s.size = 0
  · have hn := num_empty (b := 16) (most := most) h0
    rw [hn.1, hn.2]
    clear hn
    have hl : s.toList = [] := by rw [ByteArray.toList_eq]; exact List.length_eq_zero_iff.1 (by rw [← ba_size]; exact h0)
    clear h0
    go_enter Try.func70, Try.ntmps70
    go_wp2
    go_ret2
    exact ⟨rfl, Below.refl _ _⟩
  · have H0 := Lib.hid h0
    have hl : s.toList.isEmpty = false := by
      rw [ByteArray.toList_eq]
      cases hx : s.data.toList with
      | nil => exact absurd (ba_len hx) h0
      | cons a r => rfl
    clear h0
    go_enter Try.func70, Try.ntmps70
    go_wp2
    go_loopw [8, 9, 11, 12] (fun v8 v9 _ _ wr => ∃ pos : Nat, wr = w.iter s pos ∧ ReadKeeps16 s v8 v9 pos) (fun _ _ _ _ wr => s.size - wr.iterPos w.heap.size)
    case atStart => exact ⟨0, rfl, Nat.zero_le _, fun j h => by omega, .inl ⟨rfl, by simp [valN], by simp [valN]⟩⟩
    case round =>
      obtain ⟨pos, rfl, hp, hok, hkeep⟩ := hrel
      have HOK := Lib.hid hok
      clear hok
      by_cases hlt : pos < s.size
      · have hnx : ∀ ty, (Instr.next (.pointer (some ⟨w.heap.size, 0, none⟩)) true ty).run Try.prog (w.iter s pos) = _ := fun ty => run_next_any w s pos ty hlt
        by_cases hd : digV (bt s pos) < 16
        · have hlow : bt s pos < 128 := by
            by_cases h : bt s pos < 128
            · exact h
            · rw [digV_high _ (by omega)] at hd; omega
          rw [dec_low s pos hlt hlow] at hnx
          have h255 := bt_lt s pos
          have hdi := digI_eq (bt s pos) 16 (by omega) hd
          have HDI := Lib.hid hdi
          clear hdi
          go_wp2_with fail
          refine (digit_any _ _ (by omega) (by omega)).mono ?_
          rintro e w' ⟨rfl, rfl⟩
          rw [HDI.out]
          have hv := valN_take 16 s pos hlt
          have HV := Lib.hid hv
          clear hv
          generalize hdd : digV (bt s pos) = d at *
          have HDD := Lib.hid hdd
          clear hdd
          have hok2 : ∀ j, j < pos + 1 → digV (bt s j) < 16 := fun j hj => by
            by_cases hjp : j < pos
            · exact HOK.out j hjp
            · obtain rfl : j = pos := by omega
              rw [HDD.out]; exact hd
          have HOK2 := Lib.hid hok2
          clear hok2
          rcases hkeep with ⟨rfl, hle, rfl⟩ | ⟨rfl, hgt, n, hn0, hn1, rfl⟩
          · have hvn : ((valN 16 (s.data.toList.take (pos + 1)) : Nat) : Int) = (valN 16 (s.data.toList.take pos) : Nat) * 16 + d := by rw [HV.out]; simp
            have HVN := Lib.hid hvn
            clear hvn
            generalize valN 16 (s.data.toList.take pos) = m at *
            by_cases hfit : (m : Int) * 16 + d ≤ 9223372036854775807
            · have hq : (m : Int) ≤ (9223372036854775807 - (d : Int)) / 16 := by omega
              go_wp2
              go_roundw
              case rel => exact ⟨pos + 1, rfl, hlt, HOK2.out, .inl ⟨rfl, by rw [HVN.out]; exact hfit, by rw [HVN.out]⟩⟩
              case measure => simp; omega
            · have hq : (9223372036854775807 - (d : Int)) / 16 < (m : Int) := by omega
              go_wp2
              go_roundw
              case rel => exact ⟨pos + 1, rfl, hlt, HOK2.out, .inr ⟨rfl, by rw [HVN.out]; omega, m, by omega, by omega, rfl⟩⟩
              case measure => simp; omega
          · have hvn : 9223372036854775807 < ((valN 16 (s.data.toList.take (pos + 1)) : Nat) : Int) := by rw [HV.out]; omega
            have HVN := Lib.hid hvn
            clear hvn hgt
            by_cases hq : n ≤ (9223372036854775807 - (d : Int)) / 16
            · go_wp2
              go_roundw
              case rel => exact ⟨pos + 1, rfl, hlt, HOK2.out, .inr ⟨rfl, HVN.out, n, by omega, by omega, rfl⟩⟩
              case measure => simp; omega
            · have hq' : (9223372036854775807 - (d : Int)) / 16 < n := by omega
              clear hq
              go_wp2
              go_roundw
              case rel => exact ⟨pos + 1, rfl, hlt, HOK2.out, .inr ⟨rfl, HVN.out, n, by omega, by omega, rfl⟩⟩
              case measure => simp; omega
        · have hnum := num_form (b := 16) (most := most) pos hlt (by omega)
          have HN := Lib.hid hnum
          clear hnum
          have hdi : digI ((Utf8.decode s pos).1 : Int) < 0 ∨ 16 ≤ digI ((Utf8.decode s pos).1 : Int) := by
            by_cases hlow : bt s pos < 128
            · rw [dec_low s pos hlt hlow]
              exact (digI_digV (bt s pos) 16 (by omega)).2 (by omega)
            · rw [digI_high _ (dec_high s pos hlt (by omega)).1]; omega
          have hdr := digI_range ((Utf8.decode s pos).1 : Int)
          have hmax : (Utf8.decode s pos).1 ≤ 1114111 := Lib.rune_le s pos
          clear hd
          generalize Utf8.decode s pos = dd at *
          obtain ⟨r, wd⟩ := dd
          dsimp only at *
          go_wp2_with fail
          refine (digit_any _ _ (by omega) (by omega)).mono ?_
          rintro e w' ⟨rfl, rfl⟩
          generalize digI (r : Int) = d at *
          rcases hkeep with ⟨rfl, hle, rfl⟩ | ⟨rfl, hgt, n, hn0, hn1, rfl⟩
          all_goals
            rcases hdi with hdi | hdi
            all_goals first
              | (exfalso; omega)
              | (go_wp2
                 go_ret2
                 exact ⟨ret_two HN.out, (Below.refl _ _).alloc (Nat.le_refl _) _⟩)
      · have hnx : ∀ ty, (Instr.next (.pointer (some ⟨w.heap.size, 0, none⟩)) true ty).run Try.prog (w.iter s pos) = _ := fun ty => run_next_end w s pos ty hlt
        have hall : s.data.toList.take pos = s.data.toList := List.take_of_length_le (by rw [← ba_size]; omega)
        have hokA : ∀ j, j < s.size → digV (bt s j) < 16 := fun j hj => HOK.out j (by omega)
        rw [hall] at hkeep
        clear hall
        rcases hkeep with ⟨rfl, hle, rfl⟩ | ⟨rfl, hgt, n, hn0, hn1, rfl⟩
        · by_cases hmm : (valN 16 s.data.toList : Int) ≤ most
          · have HN := Lib.hid (num_fits H0.out hokA hmm)
            clear hokA
            generalize valN 16 s.data.toList = m at *
            go_wp2
            go_ret2
            exact ⟨ret_two HN.out, (Below.refl _ _).alloc (Nat.le_refl _) _⟩
          · have HN := Lib.hid (num_great H0.out hokA (most := most) (by omega))
            clear hokA
            generalize valN 16 s.data.toList = m at *
            have hmm' : most < (m : Int) := by omega
            clear hmm
            go_wp2
            go_ret2
            exact ⟨ret_two HN.out, (Below.refl _ _).alloc (Nat.le_refl _) _⟩
        · have HN := Lib.hid (num_great H0.out hokA (most := most) (by omega))
          clear hokA hgt
          go_wp2
          go_ret2
          exact ⟨ret_two HN.out, (Below.refl _ _).alloc (Nat.le_refl _) _⟩
end Go.Proofs.Ytahehpgnemanmaa
