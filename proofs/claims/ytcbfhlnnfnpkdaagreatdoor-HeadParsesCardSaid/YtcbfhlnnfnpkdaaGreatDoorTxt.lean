/- Numbers of digits, as plain functions (layer 2). · Layer 2: numbers read. · Layer 2: numbers, as the document's answer reads them. · Layer 2: numbers written. · Layer 2: the rest of the functions, and the document's examples. -/
import Derived.Test.YtcbfhlnnfnpkdaaGreatDoorPb
import Derived.Test.YtcbfhlnnfnpkdaaGreatDoorProg
import Derived.WalkSpells
import Derived.WalkLawsBesides
import Derived.Deep.Light
import Derived.Lib.TrimU
namespace Go.Proofs.YtcbfhlnnfnpkdaaGreatDoor
open Go.RowKit
set_option linter.unusedVariables false
set_option linter.unusedSimpArgs false

/-- The value of a digit; 99: none. -/
def digV (n : Nat) : Nat := if 48 ≤ n ∧ n ≤ 57 then n - 48 else if 65 ≤ n ∧ n ≤ 70 then n - 55 else if 97 ≤ n ∧ n ≤ 102 then n - 87 else 99
def digI (n : Int) : Int := if 48 ≤ n ∧ n ≤ 57 then n - 48 else if 97 ≤ n ∧ n ≤ 102 then n - 87 else if 65 ≤ n ∧ n ≤ 70 then n - 55 else -1
theorem digI_range (n : Int) : -1 ≤ digI n ∧ digI n ≤ 15 := by unfold digI; repeat' split
                                                               all_goals omega
theorem digI_high (n : Nat) (h : 128 ≤ n) : digI (n : Int) = -1 := by
  unfold digI; rw [if_neg (by omega), if_neg (by omega), if_neg (by omega)]
theorem digI_digV (n b : Nat) (hb : b ≤ 16) : (digI (n : Int) < 0 ∨ (b : Int) ≤ digI (n : Int)) ↔ b ≤ digV n := by
  unfold digI digV
  by_cases h1 : 48 ≤ n ∧ n ≤ 57
  · rw [if_pos (by omega), if_pos h1]; omega
  · rw [if_neg (by omega), if_neg h1]
    by_cases h2 : 97 ≤ n ∧ n ≤ 102
    · rw [if_pos (by omega), if_neg (by omega), if_pos h2]; omega
    · rw [if_neg (by omega)]
      by_cases h3 : 65 ≤ n ∧ n ≤ 70
      · rw [if_pos (by omega), if_pos h3]; omega
      · rw [if_neg (by omega), if_neg h3, if_neg h2]; omega
theorem digI_eq (n b : Nat) (hb : b ≤ 16) (h : digV n < b) : digI (n : Int) = digV n := by
  unfold digI; unfold digV at *
  by_cases h1 : 48 ≤ n ∧ n ≤ 57
  · rw [if_pos (by omega), if_pos h1]; omega
  · rw [if_neg (by omega), if_neg h1] at *
    by_cases h2 : 97 ≤ n ∧ n ≤ 102
    · rw [if_pos (by omega), if_neg (by omega), if_pos h2]; omega
    · rw [if_neg (by omega)]
      by_cases h3 : 65 ≤ n ∧ n ≤ 70
      · rw [if_pos (by omega), if_pos h3]; omega
      · rw [if_neg h3, if_neg h2] at h; omega
theorem digV_high (n : Nat) (h : 128 ≤ n) : digV n = 99 := by
  unfold digV; rw [if_neg (by omega), if_neg (by omega), if_neg (by omega)]

/-- The number that octets come to, to a base. -/
def valN (b : Nat) (l : List UInt8) : Nat := l.foldl (fun a c => a * b + digV c.toNat) 0
theorem valN_snoc (b : Nat) (l : List UInt8) (c : UInt8) : valN b (l ++ [c]) = valN b l * b + digV c.toNat := by simp [valN, List.foldl_append]
theorem foldl_ge (b : Nat) (hb : 1 ≤ b) : ∀ (l : List UInt8) (a : Nat), a ≤ l.foldl (fun a c => a * b + digV c.toNat) a
  | [], a => Nat.le_refl _
  | c :: l, a => by
    rw [List.foldl_cons]
    refine Nat.le_trans ?_ (foldl_ge b hb l _)
    have : a * 1 ≤ a * b := Nat.mul_le_mul_left a hb
    omega
theorem valN_append_ge (b : Nat) (hb : 1 ≤ b) (l m : List UInt8) : valN b l ≤ valN b (l ++ m) := by
  rw [valN, valN, List.foldl_append]
  exact foldl_ge b hb m _
theorem foldl_pow (b : Nat) (hb : 1 ≤ b) : ∀ (l : List UInt8) (a : Nat), a * b ^ l.length ≤ l.foldl (fun a c => a * b + digV c.toNat) a
  | [], a => by simp
  | c :: l, a => by
    rw [List.foldl_cons, List.length_cons]
    refine Nat.le_trans ?_ (foldl_pow b hb l _)
    rw [Nat.pow_succ, Nat.mul_comm (b ^ l.length) b, ← Nat.mul_assoc]
    exact Nat.mul_le_mul_right _ (by omega)
theorem valN_zero (b : Nat) (m : List UInt8) : ∀ p : List UInt8, (∀ c ∈ p, c.toNat = 48) → valN b (p ++ m) = valN b m
  | [], _ => rfl
  | c :: p, h => by
    have hc : digV c.toNat = 0 := by rw [h c (by simp)]; rfl
    have := valN_zero b m p fun d hd => h d (by simp [hd])
    rw [← this]
    simp [valN, hc]
theorem valN_big (b : Nat) (hb : 10 ≤ b) (c : UInt8) (l : List UInt8) (hc : 1 ≤ digV c.toNat) (hl : 19 ≤ l.length) : 9223372036854775807 < valN b (c :: l) := by
  have h1 := foldl_pow b (by omega) l (0 * b + digV c.toNat)
  have h2 : 10 ^ 19 ≤ b ^ l.length := Nat.le_trans (Nat.pow_le_pow_left hb 19) (Nat.pow_le_pow_right (by omega) hl)
  have h3 : (0 * b + digV c.toNat) * b ^ l.length ≤ valN b (c :: l) := h1
  have h4 : 1 * b ^ l.length ≤ (0 * b + digV c.toNat) * b ^ l.length := Nat.mul_le_mul_right _ (by omega)
  omega

/-- P2.1. -/
def numOk (b : Nat) (l : List UInt8) : Bool := l.all fun c => decide (digV c.toNat < b)
def numE (b : Nat) (s : ByteArray) (most : Int) : Int :=
  if s.size = 0 then 2 else if numOk b s.data.toList = false then 3 else if (valN b s.data.toList : Int) ≤ most then 0 else 5
def numV (b : Nat) (s : ByteArray) (most : Int) : Int := if numE b s most = 0 then valN b s.data.toList else 0
theorem num_empty {b : Nat} {s : ByteArray} {most : Int} (h : s.size = 0) : numE b s most = 2 ∧ numV b s most = 0 := by
  have : numE b s most = 2 := by unfold numE; rw [if_pos h]
  exact ⟨this, by unfold numV; rw [this]; rfl⟩
theorem num_form {b : Nat} {s : ByteArray} {most : Int} (j : Nat) (hj : j < s.size) (h : b ≤ digV (bt s j)) : numE b s most = 3 ∧ numV b s most = 0 := by
  have hn : numOk b s.data.toList = false := by
    unfold numOk
    rw [List.all_eq_false]
    refine ⟨s.data.toList[j]'(by simpa using hj), List.getElem_mem _, ?_⟩
    rw [bt_list s j hj]; simp; omega
  have : numE b s most = 3 := by unfold numE; rw [if_neg (by omega), if_pos hn]
  exact ⟨this, by unfold numV; rw [this]; rfl⟩
theorem numOk_of {b : Nat} {s : ByteArray} (h : ∀ j, j < s.size → digV (bt s j) < b) : numOk b s.data.toList = true := by
  unfold numOk
  rw [List.all_eq_true]
  intro c hc
  obtain ⟨j, hj, rfl⟩ := List.getElem_of_mem hc
  have hj' : j < s.size := by simpa using hj
  rw [bt_list s j hj']; simp; exact h j hj'
theorem num_great {b : Nat} {s : ByteArray} {most : Int} (h0 : s.size ≠ 0) (hok : ∀ j, j < s.size → digV (bt s j) < b) (h : most < valN b s.data.toList) : numE b s most = 5 ∧ numV b s most = 0 := by
  have : numE b s most = 5 := by unfold numE; rw [if_neg h0, if_neg (by rw [numOk_of hok]; simp), if_neg (by omega)]
  exact ⟨this, by unfold numV; rw [this]; rfl⟩
theorem num_fits {b : Nat} {s : ByteArray} {most : Int} (h0 : s.size ≠ 0) (hok : ∀ j, j < s.size → digV (bt s j) < b) (h : (valN b s.data.toList : Int) ≤ most) : numE b s most = 0 ∧ numV b s most = valN b s.data.toList := by
  have : numE b s most = 0 := by unfold numE; rw [if_neg h0, if_neg (by rw [numOk_of hok]; simp), if_pos h]
  exact ⟨this, by unfold numV; rw [if_pos this]⟩
theorem ret_int {k : IntKind} {a b : Int} (h : a = b) : Ending.returned (.int k a) = .returned (.int k b) := by rw [h]
theorem ret_two {a b c d : Int} (h : c = a ∧ d = b) : Ending.returned (.tuple #[.int .i64 b, .int .i64 a]) = .returned (.tuple #[.int .i64 d, .int .i64 c]) := by rw [h.1, h.2]
theorem take_snoc (s : ByteArray) (k : Nat) (h : k < s.size) : s.data.toList.take (k + 1) = s.data.toList.take k ++ [s[k]] := by
  rw [List.take_succ_eq_append_getElem (by simpa using h)]; rfl
theorem valN_take (b : Nat) (s : ByteArray) (k : Nat) (h : k < s.size) : valN b (s.data.toList.take (k + 1)) = valN b (s.data.toList.take k) * b + digV (bt s k) := by
  rw [take_snoc s k h, valN_snoc, bt_at s k h]
theorem valN_take_le (b : Nat) (hb : 1 ≤ b) (s : ByteArray) (k : Nat) : valN b (s.data.toList.take k) ≤ valN b s.data.toList := by
  conv => rhs; rw [← List.take_append_drop k s.data.toList]
  exact valN_append_ge b hb _ _
end Go.Proofs.YtcbfhlnnfnpkdaaGreatDoor
namespace Go.Proofs.YtcbfhlnnfnpkdaaGreatDoor
open Go.RowKit
set_option linter.unusedVariables false
set_option linter.unusedSimpArgs false

set_option maxHeartbeats 400000 in
theorem ref_value2_any (n : Int) (w : World) (h0 : 0 ≤ n) (h1 : n ≤ 255) :
    Calls Tryz.prog 112 #[.int .u8 n] w fun e w' => e = .returned (.int .i64 (digV n.toNat : Nat)) ∧ w = w' := by
  have hc : (48 ≤ n ∧ n ≤ 57 ∧ ((digV n.toNat : Nat) : Int) = n - 48) ∨ (65 ≤ n ∧ n ≤ 70 ∧ ((digV n.toNat : Nat) : Int) = n - 55) ∨ (97 ≤ n ∧ n ≤ 102 ∧ ((digV n.toNat : Nat) : Int) = n - 87) ∨
      ((n < 48 ∨ 57 < n ∧ n < 65 ∨ 70 < n ∧ n < 97 ∨ 102 < n) ∧ ((digV n.toNat : Nat) : Int) = 99) := by
    unfold digV
    by_cases h1 : 48 ≤ n.toNat ∧ n.toNat ≤ 57
    · rw [if_pos h1]; omega
    · rw [if_neg h1]
      by_cases h2 : 65 ≤ n.toNat ∧ n.toNat ≤ 70
      · rw [if_pos h2]; omega
      · rw [if_neg h2]
        by_cases h3 : 97 ≤ n.toNat ∧ n.toNat ≤ 102
        · rw [if_pos h3]; omega
        · rw [if_neg h3]; omega
  rcases hc with ⟨g1, g2, e⟩ | ⟨g1, g2, e⟩ | ⟨g1, g2, e⟩ | ⟨g | ⟨g, g'⟩ | ⟨g, g'⟩ | g, e⟩
  all_goals
    rw [e]
    clear e
    go_enter Tryz.func112, Tryz.ntmps112
    go_wp2
    go_ret
    exact ⟨rfl, rfl⟩

set_option maxHeartbeats 400000 in
theorem digit_any (n : Int) (w : World) (h0 : 0 ≤ n) (h1 : n ≤ 1114111) :
    Calls Tryz.prog 121 #[.int .i32 n] w fun e w' => e = .returned (.int .i64 (digI n)) ∧ w = w' := by
  have hc : (48 ≤ n ∧ n ≤ 57 ∧ digI n = n - 48) ∨ (97 ≤ n ∧ n ≤ 102 ∧ digI n = n - 97 + 10) ∨ (65 ≤ n ∧ n ≤ 70 ∧ digI n = n - 65 + 10) ∨
      ((n < 48 ∨ 57 < n ∧ n < 65 ∨ 70 < n ∧ n < 97 ∨ 102 < n) ∧ digI n = -1) := by
    unfold digI
    by_cases h1 : 48 ≤ n ∧ n ≤ 57
    · rw [if_pos h1]; omega
    · rw [if_neg h1]
      by_cases h2 : 97 ≤ n ∧ n ≤ 102
      · rw [if_pos h2]; omega
      · rw [if_neg h2]
        by_cases h3 : 65 ≤ n ∧ n ≤ 70
        · rw [if_pos h3]; omega
        · rw [if_neg h3]; omega
  rcases hc with ⟨g1, g2, e⟩ | ⟨g1, g2, e⟩ | ⟨g1, g2, e⟩ | ⟨g | ⟨g, g'⟩ | ⟨g, g'⟩ | g, e⟩
  all_goals
    rw [e]
    clear e
    go_enter Tryz.func121, Tryz.ntmps121
    go_wp2
    go_ret
    exact ⟨rfl, rfl⟩

/-- What is kept while a number to the base 10 is read. -/
def ReadKeeps10 (s : ByteArray) (v8 v9 : Value) (pos : Nat) : Prop :=
  pos ≤ s.size ∧ (∀ j, j < pos → digV (bt s j) < 10) ∧
  ((v9 = .bool false ∧ ((valN 10 (s.data.toList.take pos) : Nat) : Int) ≤ 9223372036854775807 ∧ v8 = .int .i64 ((valN 10 (s.data.toList.take pos) : Nat) : Int)) ∨
   (v9 = .bool true ∧ 9223372036854775807 < ((valN 10 (s.data.toList.take pos) : Nat) : Int) ∧ ∃ n : Int, 0 ≤ n ∧ n ≤ 9223372036854775807 ∧ v8 = .int .i64 n))

set_option maxHeartbeats 1000000 in
theorem read_10_any (s : ByteArray) (most : Int) (w : World) (hs : s.size ≤ maxLen) (hm0 : -9223372036854775808 ≤ most) (hm1 : most ≤ 9223372036854775807) :
    Calls Tryz.prog 107 #[.string s, .int .i64 10, .int .i64 most] w fun e w' => e = .returned (.tuple #[.int .i64 (numV 10 s most), .int .i64 (numE 10 s most)]) ∧ Below w.heap.size w w' := by
  unfold maxLen at hs
  by_cases h0 : s.size = 0
  · have hn := num_empty (b := 10) (most := most) h0
    rw [hn.1, hn.2]
    clear hn
    have hl : s.toList = [] := by rw [ByteArray.toList_eq]; exact List.length_eq_zero_iff.1 (by rw [← ba_size]; exact h0)
    clear h0
    go_enter Tryz.func107, Tryz.ntmps107
    go_wp2
    go_ret2
    exact ⟨rfl, Below.refl _ _⟩
  · have H0 := Lib.hid h0
    have hl : s.toList.isEmpty = false := by
      rw [ByteArray.toList_eq]
      cases hx : s.data.toList with
      | nil => exact absurd (ba_len hx) h0
      | cons a r => rfl
    clear h0
    go_enter Tryz.func107, Tryz.ntmps107
    go_wp2
    go_loopw [8, 9, 11, 12] (fun v8 v9 _ _ wr => ∃ pos : Nat, wr = w.iter s pos ∧ ReadKeeps10 s v8 v9 pos) (fun _ _ _ _ wr => s.size - wr.iterPos w.heap.size)
    case atStart => exact ⟨0, rfl, Nat.zero_le _, fun j h => by omega, .inl ⟨rfl, by simp [valN], by simp [valN]⟩⟩
    case round =>
      obtain ⟨pos, rfl, hp, hok, hkeep⟩ := hrel
      have HOK := Lib.hid hok
      clear hok
      by_cases hlt : pos < s.size
      · have hnx : ∀ ty, (Instr.next (.pointer (some ⟨w.heap.size, 0, none⟩)) true ty).run Tryz.prog (w.iter s pos) = _ := fun ty => run_next_any w s pos ty hlt
        by_cases hd : digV (bt s pos) < 10
        · have hlow : bt s pos < 128 := by
            by_cases h : bt s pos < 128
            · exact h
            · rw [digV_high _ (by omega)] at hd; omega
          rw [dec_low s pos hlt hlow] at hnx
          have h255 := bt_lt s pos
          have hdi := digI_eq (bt s pos) 10 (by omega) hd
          have HDI := Lib.hid hdi
          clear hdi
          go_wp2_with fail
          refine (digit_any _ _ (by omega) (by omega)).mono ?_
          rintro e w' ⟨rfl, rfl⟩
          rw [HDI.out]
          have hv := valN_take 10 s pos hlt
          have HV := Lib.hid hv
          clear hv
          generalize hdd : digV (bt s pos) = d at *
          have HDD := Lib.hid hdd
          clear hdd
          have hok2 : ∀ j, j < pos + 1 → digV (bt s j) < 10 := fun j hj => by
            by_cases hjp : j < pos
            · exact HOK.out j hjp
            · obtain rfl : j = pos := by omega
              rw [HDD.out]; exact hd
          have HOK2 := Lib.hid hok2
          clear hok2
          rcases hkeep with ⟨rfl, hle, rfl⟩ | ⟨rfl, hgt, n, hn0, hn1, rfl⟩
          · have hvn : ((valN 10 (s.data.toList.take (pos + 1)) : Nat) : Int) = (valN 10 (s.data.toList.take pos) : Nat) * 10 + d := by rw [HV.out]; simp
            have HVN := Lib.hid hvn
            clear hvn
            generalize valN 10 (s.data.toList.take pos) = m at *
            by_cases hfit : (m : Int) * 10 + d ≤ 9223372036854775807
            · have hq : (m : Int) ≤ (9223372036854775807 - (d : Int)) / 10 := by omega
              go_wp2
              go_roundw
              case rel => exact ⟨pos + 1, rfl, hlt, HOK2.out, .inl ⟨rfl, by rw [HVN.out]; exact hfit, by rw [HVN.out]⟩⟩
              case measure => simp; omega
            · have hq : (9223372036854775807 - (d : Int)) / 10 < (m : Int) := by omega
              go_wp2
              go_roundw
              case rel => exact ⟨pos + 1, rfl, hlt, HOK2.out, .inr ⟨rfl, by rw [HVN.out]; omega, m, by omega, by omega, rfl⟩⟩
              case measure => simp; omega
          · have hvn : 9223372036854775807 < ((valN 10 (s.data.toList.take (pos + 1)) : Nat) : Int) := by rw [HV.out]; omega
            have HVN := Lib.hid hvn
            clear hvn hgt
            by_cases hq : n ≤ (9223372036854775807 - (d : Int)) / 10
            · go_wp2
              go_roundw
              case rel => exact ⟨pos + 1, rfl, hlt, HOK2.out, .inr ⟨rfl, HVN.out, n, by omega, by omega, rfl⟩⟩
              case measure => simp; omega
            · have hq' : (9223372036854775807 - (d : Int)) / 10 < n := by omega
              clear hq
              go_wp2
              go_roundw
              case rel => exact ⟨pos + 1, rfl, hlt, HOK2.out, .inr ⟨rfl, HVN.out, n, by omega, by omega, rfl⟩⟩
              case measure => simp; omega
        · have hnum := num_form (b := 10) (most := most) pos hlt (by omega)
          have HN := Lib.hid hnum
          clear hnum
          have hdi : digI ((Utf8.decode s pos).1 : Int) < 0 ∨ 10 ≤ digI ((Utf8.decode s pos).1 : Int) := by
            by_cases hlow : bt s pos < 128
            · rw [dec_low s pos hlt hlow]
              exact (digI_digV (bt s pos) 10 (by omega)).2 (by omega)
            · rw [digI_high _ (dec_high s pos hlt (by omega)).1]; omega
          have hdr := digI_range ((Utf8.decode s pos).1 : Int)
          have hmax : (Utf8.decode s pos).1 ≤ 1114111 := Lib.rune_le s pos
          clear hd
          generalize Utf8.decode s pos = dd at *
          obtain ⟨r, wd⟩ := dd
          dsimp only at *
          go_wp2_with fail
          refine (digit_any _ _ (by omega) (by omega)).mono ?_
          rintro e w' ⟨rfl, rfl⟩
          generalize digI (r : Int) = d at *
          rcases hkeep with ⟨rfl, hle, rfl⟩ | ⟨rfl, hgt, n, hn0, hn1, rfl⟩
          all_goals
            rcases hdi with hdi | hdi
            all_goals first
              | (exfalso; omega)
              | (go_wp2
                 go_ret2
                 exact ⟨ret_two HN.out, (Below.refl _ _).alloc (Nat.le_refl _) _⟩)
      · have hnx : ∀ ty, (Instr.next (.pointer (some ⟨w.heap.size, 0, none⟩)) true ty).run Tryz.prog (w.iter s pos) = _ := fun ty => run_next_end w s pos ty hlt
        have hall : s.data.toList.take pos = s.data.toList := List.take_of_length_le (by rw [← ba_size]; omega)
        have hokA : ∀ j, j < s.size → digV (bt s j) < 10 := fun j hj => HOK.out j (by omega)
        rw [hall] at hkeep
        clear hall
        rcases hkeep with ⟨rfl, hle, rfl⟩ | ⟨rfl, hgt, n, hn0, hn1, rfl⟩
        · by_cases hmm : (valN 10 s.data.toList : Int) ≤ most
          · have HN := Lib.hid (num_fits H0.out hokA hmm)
            clear hokA
            generalize valN 10 s.data.toList = m at *
            go_wp2
            go_ret2
            exact ⟨ret_two HN.out, (Below.refl _ _).alloc (Nat.le_refl _) _⟩
          · have HN := Lib.hid (num_great H0.out hokA (most := most) (by omega))
            clear hokA
            generalize valN 10 s.data.toList = m at *
            have hmm' : most < (m : Int) := by omega
            clear hmm
            go_wp2
            go_ret2
            exact ⟨ret_two HN.out, (Below.refl _ _).alloc (Nat.le_refl _) _⟩
        · have HN := Lib.hid (num_great H0.out hokA (most := most) (by omega))
          clear hokA hgt
          go_wp2
          go_ret2
          exact ⟨ret_two HN.out, (Below.refl _ _).alloc (Nat.le_refl _) _⟩

/-- What is kept while a number to the base 16 is read. -/
def ReadKeeps16 (s : ByteArray) (v8 v9 : Value) (pos : Nat) : Prop :=
  pos ≤ s.size ∧ (∀ j, j < pos → digV (bt s j) < 16) ∧
  ((v9 = .bool false ∧ ((valN 16 (s.data.toList.take pos) : Nat) : Int) ≤ 9223372036854775807 ∧ v8 = .int .i64 ((valN 16 (s.data.toList.take pos) : Nat) : Int)) ∨
   (v9 = .bool true ∧ 9223372036854775807 < ((valN 16 (s.data.toList.take pos) : Nat) : Int) ∧ ∃ n : Int, 0 ≤ n ∧ n ≤ 9223372036854775807 ∧ v8 = .int .i64 n))

set_option maxHeartbeats 1000000 in
theorem read_16_any (s : ByteArray) (most : Int) (w : World) (hs : s.size ≤ maxLen) (hm0 : -9223372036854775808 ≤ most) (hm1 : most ≤ 9223372036854775807) :
    Calls Tryz.prog 107 #[.string s, .int .i64 16, .int .i64 most] w fun e w' => e = .returned (.tuple #[.int .i64 (numV 16 s most), .int .i64 (numE 16 s most)]) ∧ Below w.heap.size w w' := by
  unfold maxLen at hs
  by_cases h0 : s.size = 0
  · have hn := num_empty (b := 16) (most := most) h0
    rw [hn.1, hn.2]
    clear hn
    have hl : s.toList = [] := by rw [ByteArray.toList_eq]; exact List.length_eq_zero_iff.1 (by rw [← ba_size]; exact h0)
    clear h0
    go_enter Tryz.func107, Tryz.ntmps107
    go_wp2
    go_ret2
    exact ⟨rfl, Below.refl _ _⟩
  · have H0 := Lib.hid h0
    have hl : s.toList.isEmpty = false := by
      rw [ByteArray.toList_eq]
      cases hx : s.data.toList with
      | nil => exact absurd (ba_len hx) h0
      | cons a r => rfl
    clear h0
    go_enter Tryz.func107, Tryz.ntmps107
    go_wp2
    go_loopw [8, 9, 11, 12] (fun v8 v9 _ _ wr => ∃ pos : Nat, wr = w.iter s pos ∧ ReadKeeps16 s v8 v9 pos) (fun _ _ _ _ wr => s.size - wr.iterPos w.heap.size)
    case atStart => exact ⟨0, rfl, Nat.zero_le _, fun j h => by omega, .inl ⟨rfl, by simp [valN], by simp [valN]⟩⟩
    case round =>
      obtain ⟨pos, rfl, hp, hok, hkeep⟩ := hrel
      have HOK := Lib.hid hok
      clear hok
      by_cases hlt : pos < s.size
      · have hnx : ∀ ty, (Instr.next (.pointer (some ⟨w.heap.size, 0, none⟩)) true ty).run Tryz.prog (w.iter s pos) = _ := fun ty => run_next_any w s pos ty hlt
        by_cases hd : digV (bt s pos) < 16
        · have hlow : bt s pos < 128 := by
            by_cases h : bt s pos < 128
            · exact h
            · rw [digV_high _ (by omega)] at hd; omega
          rw [dec_low s pos hlt hlow] at hnx
          have h255 := bt_lt s pos
          have hdi := digI_eq (bt s pos) 16 (by omega) hd
          have HDI := Lib.hid hdi
          clear hdi
          go_wp2_with fail
          refine (digit_any _ _ (by omega) (by omega)).mono ?_
          rintro e w' ⟨rfl, rfl⟩
          rw [HDI.out]
          have hv := valN_take 16 s pos hlt
          have HV := Lib.hid hv
          clear hv
          generalize hdd : digV (bt s pos) = d at *
          have HDD := Lib.hid hdd
          clear hdd
          have hok2 : ∀ j, j < pos + 1 → digV (bt s j) < 16 := fun j hj => by
            by_cases hjp : j < pos
            · exact HOK.out j hjp
            · obtain rfl : j = pos := by omega
              rw [HDD.out]; exact hd
          have HOK2 := Lib.hid hok2
          clear hok2
          rcases hkeep with ⟨rfl, hle, rfl⟩ | ⟨rfl, hgt, n, hn0, hn1, rfl⟩
          · have hvn : ((valN 16 (s.data.toList.take (pos + 1)) : Nat) : Int) = (valN 16 (s.data.toList.take pos) : Nat) * 16 + d := by rw [HV.out]; simp
            have HVN := Lib.hid hvn
            clear hvn
            generalize valN 16 (s.data.toList.take pos) = m at *
            by_cases hfit : (m : Int) * 16 + d ≤ 9223372036854775807
            · have hq : (m : Int) ≤ (9223372036854775807 - (d : Int)) / 16 := by omega
              go_wp2
              go_roundw
              case rel => exact ⟨pos + 1, rfl, hlt, HOK2.out, .inl ⟨rfl, by rw [HVN.out]; exact hfit, by rw [HVN.out]⟩⟩
              case measure => simp; omega
            · have hq : (9223372036854775807 - (d : Int)) / 16 < (m : Int) := by omega
              go_wp2
              go_roundw
              case rel => exact ⟨pos + 1, rfl, hlt, HOK2.out, .inr ⟨rfl, by rw [HVN.out]; omega, m, by omega, by omega, rfl⟩⟩
              case measure => simp; omega
          · have hvn : 9223372036854775807 < ((valN 16 (s.data.toList.take (pos + 1)) : Nat) : Int) := by rw [HV.out]; omega
            have HVN := Lib.hid hvn
            clear hvn hgt
            by_cases hq : n ≤ (9223372036854775807 - (d : Int)) / 16
            · go_wp2
              go_roundw
              case rel => exact ⟨pos + 1, rfl, hlt, HOK2.out, .inr ⟨rfl, HVN.out, n, by omega, by omega, rfl⟩⟩
              case measure => simp; omega
            · have hq' : (9223372036854775807 - (d : Int)) / 16 < n := by omega
              clear hq
              go_wp2
              go_roundw
              case rel => exact ⟨pos + 1, rfl, hlt, HOK2.out, .inr ⟨rfl, HVN.out, n, by omega, by omega, rfl⟩⟩
              case measure => simp; omega
        · have hnum := num_form (b := 16) (most := most) pos hlt (by omega)
          have HN := Lib.hid hnum
          clear hnum
          have hdi : digI ((Utf8.decode s pos).1 : Int) < 0 ∨ 16 ≤ digI ((Utf8.decode s pos).1 : Int) := by
            by_cases hlow : bt s pos < 128
            · rw [dec_low s pos hlt hlow]
              exact (digI_digV (bt s pos) 16 (by omega)).2 (by omega)
            · rw [digI_high _ (dec_high s pos hlt (by omega)).1]; omega
          have hdr := digI_range ((Utf8.decode s pos).1 : Int)
          have hmax : (Utf8.decode s pos).1 ≤ 1114111 := Lib.rune_le s pos
          clear hd
          generalize Utf8.decode s pos = dd at *
          obtain ⟨r, wd⟩ := dd
          dsimp only at *
          go_wp2_with fail
          refine (digit_any _ _ (by omega) (by omega)).mono ?_
          rintro e w' ⟨rfl, rfl⟩
          generalize digI (r : Int) = d at *
          rcases hkeep with ⟨rfl, hle, rfl⟩ | ⟨rfl, hgt, n, hn0, hn1, rfl⟩
          all_goals
            rcases hdi with hdi | hdi
            all_goals first
              | (exfalso; omega)
              | (go_wp2
                 go_ret2
                 exact ⟨ret_two HN.out, (Below.refl _ _).alloc (Nat.le_refl _) _⟩)
      · have hnx : ∀ ty, (Instr.next (.pointer (some ⟨w.heap.size, 0, none⟩)) true ty).run Tryz.prog (w.iter s pos) = _ := fun ty => run_next_end w s pos ty hlt
        have hall : s.data.toList.take pos = s.data.toList := List.take_of_length_le (by rw [← ba_size]; omega)
        have hokA : ∀ j, j < s.size → digV (bt s j) < 16 := fun j hj => HOK.out j (by omega)
        rw [hall] at hkeep
        clear hall
        rcases hkeep with ⟨rfl, hle, rfl⟩ | ⟨rfl, hgt, n, hn0, hn1, rfl⟩
        · by_cases hmm : (valN 16 s.data.toList : Int) ≤ most
          · have HN := Lib.hid (num_fits H0.out hokA hmm)
            clear hokA
            generalize valN 16 s.data.toList = m at *
            go_wp2
            go_ret2
            exact ⟨ret_two HN.out, (Below.refl _ _).alloc (Nat.le_refl _) _⟩
          · have HN := Lib.hid (num_great H0.out hokA (most := most) (by omega))
            clear hokA
            generalize valN 16 s.data.toList = m at *
            have hmm' : most < (m : Int) := by omega
            clear hmm
            go_wp2
            go_ret2
            exact ⟨ret_two HN.out, (Below.refl _ _).alloc (Nat.le_refl _) _⟩
        · have HN := Lib.hid (num_great H0.out hokA (most := most) (by omega))
          clear hokA hgt
          go_wp2
          go_ret2
          exact ⟨ret_two HN.out, (Below.refl _ _).alloc (Nat.le_refl _) _⟩
end Go.Proofs.YtcbfhlnnfnpkdaaGreatDoor
namespace Go.Proofs.YtcbfhlnnfnpkdaaGreatDoor
open Go.RowKit
set_option linter.unusedVariables false
set_option linter.unusedSimpArgs false

theorem digV_zero {n b : Nat} (hb : b ≤ 16) (h : digV n < b) (h0 : n ≠ 48) : 1 ≤ digV n := by
  unfold digV at *
  repeat' split
  all_goals omega
theorem valN_more (b : Nat) (hb : 1 ≤ b) (s : ByteArray) (k : Nat) (h : k < s.size) : valN b (s.data.toList.take k) * b ≤ valN b s.data.toList := by
  have h1 := valN_take b s k h
  have h2 := valN_take_le b hb s (k + 1)
  omega

set_option maxRecDepth 100000 in
set_option maxHeartbeats 1000000 in
theorem ref_number_10_any (s : ByteArray) (most : Int) (w : World) (hs : s.size ≤ maxLen) (hm0 : -9223372036854775808 ≤ most) (hm1 : most ≤ 9223372036854775807) :
    Calls Tryz.prog 82 #[.string s, .int .i64 10, .int .i64 most] w fun e w' => e = .returned (.tuple #[.int .i64 (numV 10 s most), .int .i64 (numE 10 s most)]) ∧ w = w' := by
  unfold maxLen at hs
  by_cases h0 : s.size = 0
  · have hn := num_empty (b := 10) (most := most) h0
    rw [hn.1, hn.2]
    clear hn
    go_enter Tryz.func82, Tryz.ntmps82
    go_wp2
    go_ret2
    exact ⟨rfl, rfl⟩
  · have H0 := Lib.hid h0
    have h0' : 0 < s.size := by omega
    have h0b : ((s.size : Int) == 0) = false := by rw [beq_eq_false_iff_ne]; omega
    clear h0
    go_enter Tryz.func82, Tryz.ntmps82
    go_wp2
    go_loop [8] (fun i => ∃ k : Nat, k ≤ s.size ∧ i = .int .i64 k ∧ ∀ j, j < k → digV (bt s j) < 10) (fun i => s.size - (intOf i).toNat)
    case atStart => exact ⟨0, by omega, rfl, fun j h => by omega⟩
    case round =>
      obtain ⟨k, hk, rfl, hok⟩ := hrel
      have HOK := Lib.hid hok
      clear hok
      by_cases hlt : k < s.size
      · have hb := bt_at s k hlt
        have HB := Lib.hid hb
        have h255 := bt_lt s k
        rw [← hb] at h255
        clear hb
        go_wp2_with fail
        refine (ref_value2_any _ _ (by omega) (by omega)).mono ?_
        rintro e w' ⟨rfl, rfl⟩
        rw [Int.toNat_natCast, HB.out]
        by_cases hd : digV (bt s k) < 10
        · have HD := Lib.hid hd
          generalize hdd : digV (bt s k) = d at *
          have HDD := Lib.hid hdd
          clear hdd
          go_wp2
          go_round
          case rel =>
            refine ⟨k + 1, by omega, by go_num, fun j hj => ?_⟩
            by_cases hjk : j < k
            · exact HOK.out j hjk
            · obtain rfl : j = k := by omega
              rw [HDD.out]; exact HD.out
          case measure => simp [intOf]; omega
        · have HN := Lib.hid (num_form (b := 10) (most := most) k hlt (by omega))
          generalize digV (bt s k) = d at *
          have hd' : (10 : Int) ≤ d := by omega
          clear hd
          go_wp2
          go_ret2
          exact ⟨ret_two HN.out, rfl⟩
      · have hokA : ∀ j, j < s.size → digV (bt s j) < 10 := fun j hj => HOK.out j (by omega)
        have HOKA := Lib.hid hokA
        clear hokA HOK
        go_wp2
        go_loop [0] (fun v => ∃ (x : ByteArray) (p : List UInt8), v = .string x ∧ s.data.toList = p ++ x.data.toList ∧ (∀ c ∈ p, c.toNat = 48) ∧ 0 < x.size) (fun v => szOf v)
        case atStart => exact ⟨s, [], rfl, by simp, by simp, h0'⟩
        case round =>
          obtain ⟨x, p, rfl, hx, hpz, hx0⟩ := hrel
          have hxs : x.size ≤ s.size := by rw [ba_size, ba_size, hx]; simp
          have HX := Lib.hid hx
          have HPZ := Lib.hid hpz
          have hbx := bt_at x 0 hx0
          have HBX := Lib.hid hbx
          clear hx hpz hbx
          by_cases hgo : 1 < x.size ∧ bt x 0 = 48
          · obtain ⟨g1, g2⟩ := hgo
            have e1 : ((x[0].toNat : Int) == 48) = true := by rw [HBX.out, g2]; rfl
            have he : x.data.toList = x[0] :: (x.extract 1 x.size).data.toList := by
              rw [Lib.extract_to_end]
              have := List.drop_eq_getElem_cons (l := x.data.toList) (i := 0) (by rw [← ba_size]; exact hx0)
              exact this
            have hes : (x.extract 1 x.size).size = x.size - 1 := by rw [ba_size, Lib.extract_to_end, List.length_drop, ← ba_size]
            have HE := Lib.hid he
            have HES := Lib.hid hes
            have HG2 := Lib.hid g2
            clear he hes g2
            go_wp2
            go_round
            case rel =>
              refine ⟨_, p ++ [x[0]], rfl, by rw [HX.out, List.append_assoc, List.singleton_append, ← HE.out], fun c hc => ?_, by rw [HES.out]; omega⟩
              rcases List.mem_append.1 hc with hc | hc
              · exact HPZ.out c hc
              · rw [List.mem_singleton.1 hc, HBX.out, HG2.out]
            case measure =>
              show (x.extract 1 x.size).size < x.size
              rw [HES.out]; omega
          · have hval : valN 10 s.data.toList = valN 10 x.data.toList := by rw [HX.out]; exact valN_zero 10 _ p HPZ.out
            have hokx : ∀ j, j < x.size → digV (bt x j) < 10 := by
              intro j hj
              have hjs : p.length + j < s.size := by rw [ba_size, HX.out, List.length_append, ← ba_size]; omega
              have := HOKA.out (p.length + j) hjs
              rw [← bt_list s _ hjs] at this
              rw [← bt_list x j hj]
              simp only [HX.out] at this
              rw [List.getElem_append_right (by omega)] at this
              simpa using this
            have HVAL := Lib.hid hval
            have HOKX := Lib.hid hokx
            have hbig : 19 < x.size → 9223372036854775807 < valN 10 x.data.toList := by
              intro h
              have hb0 : bt x 0 ≠ 48 := fun e => hgo ⟨by omega, e⟩
              cases hl : x.data.toList with
              | nil => rw [ba_len hl] at hx0; simp at hx0
              | cons c r =>
                have hd0 := digV_zero (b := 10) (by omega) (hokx 0 hx0) hb0
                rw [bt_cons hl] at hd0
                exact valN_big 10 (by omega) c r hd0 (by rw [ba_len hl] at h; simp at h; omega)
            have HBIG := Lib.hid hbig
            have hstop : x.size = 1 ∨ (1 < x.size ∧ ((x[0].toNat : Int) == 48) = false) := by
              by_cases h1 : x.size = 1
              · exact .inl h1
              · refine .inr ⟨by omega, ?_⟩
                rw [HBX.out]
                have : bt x 0 ≠ 48 := fun e => hgo ⟨by omega, e⟩
                simp; omega
            clear hval hokx hbig hgo
            by_cases h19 : 19 < x.size
            · have HN := Lib.hid (num_great (b := 10) (most := most) H0.out HOKA.out (by have := HBIG.out h19; rw [HVAL.out]; omega))
              rcases hstop with h1 | ⟨h1, h2⟩
              · omega
              · go_wp2
                go_ret2
                exact ⟨ret_two HN.out, rfl⟩
            · rcases hstop with h1 | ⟨h1, h2⟩
              all_goals
                go_wp2
                go_loop [9, 10] (fun n i => ∃ k : Nat, k ≤ x.size ∧ i = .int .i64 k ∧ n = .int .u64 ((valN 10 (x.data.toList.take k) : Nat) : Int) ∧ ((valN 10 (x.data.toList.take k) : Nat) : Int) ≤ 18446744073709551615) (fun _ i => x.size - (intOf i).toNat)
                case atStart => exact ⟨0, by omega, rfl, by simp [valN], by simp [valN]⟩
                case round =>
                  obtain ⟨k, hk, rfl, rfl, hv⟩ := hrel
                  by_cases hlt2 : k < x.size
                  · have hb := bt_at x k hlt2
                    have HB := Lib.hid hb
                    have h255 := bt_lt x k
                    rw [← hb] at h255
                    have hd := HOKX.out k hlt2
                    rw [← hb] at hd
                    have hvt := valN_take 10 x k hlt2
                    rw [← hb] at hvt
                    have HVT := Lib.hid hvt
                    have hmore := valN_more 10 (by omega) x k hlt2
                    clear hb hvt
                    by_cases hbg : ((valN 10 (x.data.toList.take k) : Nat) : Int) ≤ 1152921504606846975
                    · have HM := Lib.hid hmore
                      clear hmore
                      have hnext : ((valN 10 (x.data.toList.take (k + 1)) : Nat) : Int) = ((valN 10 (x.data.toList.take k) : Nat) : Int) * 10 + (digV x[k].toNat : Nat) := by rw [HVT.out]; simp
                      have HNX := Lib.hid hnext
                      clear hnext hv
                      generalize valN 10 (x.data.toList.take k) = m at *
                      go_wp2_with fail
                      refine (ref_value2_any _ _ (by omega) (by omega)).mono ?_
                      rintro e w' ⟨rfl, rfl⟩
                      rw [Int.toNat_natCast]
                      generalize digV x[k].toNat = d at *
                      go_wp2
                      go_round
                      case rel => exact ⟨k + 1, by omega, by go_num, by rw [HNX.out], by rw [HNX.out]; omega⟩
                      case measure => simp [intOf]; omega
                    · have HN := Lib.hid (num_great (b := 10) (most := most) H0.out HOKA.out (by rw [HVAL.out]; omega))
                      have hbg' : 1152921504606846975 < ((valN 10 (x.data.toList.take k) : Nat) : Int) := by omega
                      clear hbg hmore hd
                      generalize valN 10 (x.data.toList.take k) = m at *
                      go_wp2
                      go_ret2
                      exact ⟨ret_two HN.out, rfl⟩
                  · have hall : x.data.toList.take k = x.data.toList := List.take_of_length_le (by rw [← ba_size]; omega)
                    rw [hall] at hv ⊢
                    clear hall
                    by_cases hneg : most < 0
                    · have HN := Lib.hid (num_great (b := 10) (most := most) H0.out HOKA.out (by rw [HVAL.out]; omega))
                      generalize valN 10 x.data.toList = m at *
                      go_wp2
                      go_ret2
                      exact ⟨ret_two HN.out, rfl⟩
                    · have hneg' : 0 ≤ most := by omega
                      clear hneg
                      by_cases hmm : ((valN 10 x.data.toList : Nat) : Int) ≤ most
                      · have HN := Lib.hid (num_fits (b := 10) (most := most) H0.out HOKA.out (by rw [HVAL.out]; exact hmm))
                        have hn := HN.out
                        rw [HVAL.out] at hn
                        have HN2 := Lib.hid hn
                        clear hn HN
                        generalize valN 10 x.data.toList = m at *
                        go_wp2
                        go_ret2
                        exact ⟨ret_two HN2.out, rfl⟩
                      · have HN := Lib.hid (num_great (b := 10) (most := most) H0.out HOKA.out (by rw [HVAL.out]; omega))
                        have hmm' : most < ((valN 10 x.data.toList : Nat) : Int) := by omega
                        clear hmm
                        generalize valN 10 x.data.toList = m at *
                        go_wp2
                        go_ret2
                        exact ⟨ret_two HN.out, rfl⟩

set_option maxRecDepth 100000 in
set_option maxHeartbeats 1000000 in
theorem ref_number_16_any (s : ByteArray) (most : Int) (w : World) (hs : s.size ≤ maxLen) (hm0 : -9223372036854775808 ≤ most) (hm1 : most ≤ 9223372036854775807) :
    Calls Tryz.prog 82 #[.string s, .int .i64 16, .int .i64 most] w fun e w' => e = .returned (.tuple #[.int .i64 (numV 16 s most), .int .i64 (numE 16 s most)]) ∧ w = w' := by
  unfold maxLen at hs
  by_cases h0 : s.size = 0
  · have hn := num_empty (b := 16) (most := most) h0
    rw [hn.1, hn.2]
    clear hn
    go_enter Tryz.func82, Tryz.ntmps82
    go_wp2
    go_ret2
    exact ⟨rfl, rfl⟩
  · have H0 := Lib.hid h0
    have h0' : 0 < s.size := by omega
    have h0b : ((s.size : Int) == 0) = false := by rw [beq_eq_false_iff_ne]; omega
    clear h0
    go_enter Tryz.func82, Tryz.ntmps82
    go_wp2
    go_loop [8] (fun i => ∃ k : Nat, k ≤ s.size ∧ i = .int .i64 k ∧ ∀ j, j < k → digV (bt s j) < 16) (fun i => s.size - (intOf i).toNat)
    case atStart => exact ⟨0, by omega, rfl, fun j h => by omega⟩
    case round =>
      obtain ⟨k, hk, rfl, hok⟩ := hrel
      have HOK := Lib.hid hok
      clear hok
      by_cases hlt : k < s.size
      · have hb := bt_at s k hlt
        have HB := Lib.hid hb
        have h255 := bt_lt s k
        rw [← hb] at h255
        clear hb
        go_wp2_with fail
        refine (ref_value2_any _ _ (by omega) (by omega)).mono ?_
        rintro e w' ⟨rfl, rfl⟩
        rw [Int.toNat_natCast, HB.out]
        by_cases hd : digV (bt s k) < 16
        · have HD := Lib.hid hd
          generalize hdd : digV (bt s k) = d at *
          have HDD := Lib.hid hdd
          clear hdd
          go_wp2
          go_round
          case rel =>
            refine ⟨k + 1, by omega, by go_num, fun j hj => ?_⟩
            by_cases hjk : j < k
            · exact HOK.out j hjk
            · obtain rfl : j = k := by omega
              rw [HDD.out]; exact HD.out
          case measure => simp [intOf]; omega
        · have HN := Lib.hid (num_form (b := 16) (most := most) k hlt (by omega))
          generalize digV (bt s k) = d at *
          have hd' : (16 : Int) ≤ d := by omega
          clear hd
          go_wp2
          go_ret2
          exact ⟨ret_two HN.out, rfl⟩
      · have hokA : ∀ j, j < s.size → digV (bt s j) < 16 := fun j hj => HOK.out j (by omega)
        have HOKA := Lib.hid hokA
        clear hokA HOK
        go_wp2
        go_loop [0] (fun v => ∃ (x : ByteArray) (p : List UInt8), v = .string x ∧ s.data.toList = p ++ x.data.toList ∧ (∀ c ∈ p, c.toNat = 48) ∧ 0 < x.size) (fun v => szOf v)
        case atStart => exact ⟨s, [], rfl, by simp, by simp, h0'⟩
        case round =>
          obtain ⟨x, p, rfl, hx, hpz, hx0⟩ := hrel
          have hxs : x.size ≤ s.size := by rw [ba_size, ba_size, hx]; simp
          have HX := Lib.hid hx
          have HPZ := Lib.hid hpz
          have hbx := bt_at x 0 hx0
          have HBX := Lib.hid hbx
          clear hx hpz hbx
          by_cases hgo : 1 < x.size ∧ bt x 0 = 48
          · obtain ⟨g1, g2⟩ := hgo
            have e1 : ((x[0].toNat : Int) == 48) = true := by rw [HBX.out, g2]; rfl
            have he : x.data.toList = x[0] :: (x.extract 1 x.size).data.toList := by
              rw [Lib.extract_to_end]
              have := List.drop_eq_getElem_cons (l := x.data.toList) (i := 0) (by rw [← ba_size]; exact hx0)
              exact this
            have hes : (x.extract 1 x.size).size = x.size - 1 := by rw [ba_size, Lib.extract_to_end, List.length_drop, ← ba_size]
            have HE := Lib.hid he
            have HES := Lib.hid hes
            have HG2 := Lib.hid g2
            clear he hes g2
            go_wp2
            go_round
            case rel =>
              refine ⟨_, p ++ [x[0]], rfl, by rw [HX.out, List.append_assoc, List.singleton_append, ← HE.out], fun c hc => ?_, by rw [HES.out]; omega⟩
              rcases List.mem_append.1 hc with hc | hc
              · exact HPZ.out c hc
              · rw [List.mem_singleton.1 hc, HBX.out, HG2.out]
            case measure =>
              show (x.extract 1 x.size).size < x.size
              rw [HES.out]; omega
          · have hval : valN 16 s.data.toList = valN 16 x.data.toList := by rw [HX.out]; exact valN_zero 16 _ p HPZ.out
            have hokx : ∀ j, j < x.size → digV (bt x j) < 16 := by
              intro j hj
              have hjs : p.length + j < s.size := by rw [ba_size, HX.out, List.length_append, ← ba_size]; omega
              have := HOKA.out (p.length + j) hjs
              rw [← bt_list s _ hjs] at this
              rw [← bt_list x j hj]
              simp only [HX.out] at this
              rw [List.getElem_append_right (by omega)] at this
              simpa using this
            have HVAL := Lib.hid hval
            have HOKX := Lib.hid hokx
            have hbig : 19 < x.size → 9223372036854775807 < valN 16 x.data.toList := by
              intro h
              have hb0 : bt x 0 ≠ 48 := fun e => hgo ⟨by omega, e⟩
              cases hl : x.data.toList with
              | nil => rw [ba_len hl] at hx0; simp at hx0
              | cons c r =>
                have hd0 := digV_zero (b := 16) (by omega) (hokx 0 hx0) hb0
                rw [bt_cons hl] at hd0
                exact valN_big 16 (by omega) c r hd0 (by rw [ba_len hl] at h; simp at h; omega)
            have HBIG := Lib.hid hbig
            have hstop : x.size = 1 ∨ (1 < x.size ∧ ((x[0].toNat : Int) == 48) = false) := by
              by_cases h1 : x.size = 1
              · exact .inl h1
              · refine .inr ⟨by omega, ?_⟩
                rw [HBX.out]
                have : bt x 0 ≠ 48 := fun e => hgo ⟨by omega, e⟩
                simp; omega
            clear hval hokx hbig hgo
            by_cases h19 : 19 < x.size
            · have HN := Lib.hid (num_great (b := 16) (most := most) H0.out HOKA.out (by have := HBIG.out h19; rw [HVAL.out]; omega))
              rcases hstop with h1 | ⟨h1, h2⟩
              · omega
              · go_wp2
                go_ret2
                exact ⟨ret_two HN.out, rfl⟩
            · rcases hstop with h1 | ⟨h1, h2⟩
              all_goals
                go_wp2
                go_loop [9, 10] (fun n i => ∃ k : Nat, k ≤ x.size ∧ i = .int .i64 k ∧ n = .int .u64 ((valN 16 (x.data.toList.take k) : Nat) : Int) ∧ ((valN 16 (x.data.toList.take k) : Nat) : Int) ≤ 18446744073709551615) (fun _ i => x.size - (intOf i).toNat)
                case atStart => exact ⟨0, by omega, rfl, by simp [valN], by simp [valN]⟩
                case round =>
                  obtain ⟨k, hk, rfl, rfl, hv⟩ := hrel
                  by_cases hlt2 : k < x.size
                  · have hb := bt_at x k hlt2
                    have HB := Lib.hid hb
                    have h255 := bt_lt x k
                    rw [← hb] at h255
                    have hd := HOKX.out k hlt2
                    rw [← hb] at hd
                    have hvt := valN_take 16 x k hlt2
                    rw [← hb] at hvt
                    have HVT := Lib.hid hvt
                    have hmore := valN_more 16 (by omega) x k hlt2
                    clear hb hvt
                    by_cases hbg : ((valN 16 (x.data.toList.take k) : Nat) : Int) ≤ 1152921504606846975
                    · have HM := Lib.hid hmore
                      clear hmore
                      have hnext : ((valN 16 (x.data.toList.take (k + 1)) : Nat) : Int) = ((valN 16 (x.data.toList.take k) : Nat) : Int) * 16 + (digV x[k].toNat : Nat) := by rw [HVT.out]; simp
                      have HNX := Lib.hid hnext
                      clear hnext hv
                      generalize valN 16 (x.data.toList.take k) = m at *
                      go_wp2_with fail
                      refine (ref_value2_any _ _ (by omega) (by omega)).mono ?_
                      rintro e w' ⟨rfl, rfl⟩
                      rw [Int.toNat_natCast]
                      generalize digV x[k].toNat = d at *
                      go_wp2
                      go_round
                      case rel => exact ⟨k + 1, by omega, by go_num, by rw [HNX.out], by rw [HNX.out]; omega⟩
                      case measure => simp [intOf]; omega
                    · have HN := Lib.hid (num_great (b := 16) (most := most) H0.out HOKA.out (by rw [HVAL.out]; omega))
                      have hbg' : 1152921504606846975 < ((valN 16 (x.data.toList.take k) : Nat) : Int) := by omega
                      clear hbg hmore hd
                      generalize valN 16 (x.data.toList.take k) = m at *
                      go_wp2
                      go_ret2
                      exact ⟨ret_two HN.out, rfl⟩
                  · have hall : x.data.toList.take k = x.data.toList := List.take_of_length_le (by rw [← ba_size]; omega)
                    rw [hall] at hv ⊢
                    clear hall
                    by_cases hneg : most < 0
                    · have HN := Lib.hid (num_great (b := 16) (most := most) H0.out HOKA.out (by rw [HVAL.out]; omega))
                      generalize valN 16 x.data.toList = m at *
                      go_wp2
                      go_ret2
                      exact ⟨ret_two HN.out, rfl⟩
                    · have hneg' : 0 ≤ most := by omega
                      clear hneg
                      by_cases hmm : ((valN 16 x.data.toList : Nat) : Int) ≤ most
                      · have HN := Lib.hid (num_fits (b := 16) (most := most) H0.out HOKA.out (by rw [HVAL.out]; exact hmm))
                        have hn := HN.out
                        rw [HVAL.out] at hn
                        have HN2 := Lib.hid hn
                        clear hn HN
                        generalize valN 16 x.data.toList = m at *
                        go_wp2
                        go_ret2
                        exact ⟨ret_two HN2.out, rfl⟩
                      · have HN := Lib.hid (num_great (b := 16) (most := most) H0.out HOKA.out (by rw [HVAL.out]; omega))
                        have hmm' : most < ((valN 16 x.data.toList : Nat) : Int) := by omega
                        clear hmm
                        generalize valN 16 x.data.toList = m at *
                        go_wp2
                        go_ret2
                        exact ⟨ret_two HN.out, rfl⟩
end Go.Proofs.YtcbfhlnnfnpkdaaGreatDoor
namespace Go.Proofs.YtcbfhlnnfnpkdaaGreatDoor
open Go.RowKit
set_option linter.unusedVariables false
set_option linter.unusedSimpArgs false

def sgn (d : Nat) : UInt8 := UInt8.ofNat (if d < 10 then 48 + d else 87 + d)
theorem sgn_toNat (d : Nat) (h : d < 16) : (sgn d).toNat = if d < 10 then 48 + d else 87 + d := by
  unfold sgn
  split <;> simp <;> omega
theorem digV_sgn (d : Nat) (h : d < 16) : digV (sgn d).toNat = d := by
  rw [sgn_toNat d h]
  split
  · unfold digV; rw [if_pos (by omega)]; omega
  · unfold digV; rw [if_neg (by omega), if_neg (by omega), if_pos (by omega)]; omega

/-- The digits of n, at least 'wide' of them. -/
def wdigAux (b wide : Nat) : Nat → Nat → List UInt8 → List UInt8
  | 0, _, acc => acc
  | f + 1, n, acc => if 0 < n ∨ acc.length < wide then wdigAux b wide f (n / b) (sgn (n % b) :: acc) else acc
def wdig (b wide n : Nat) : List UInt8 := wdigAux b wide 20 n []

theorem wdigAux_stop {b wide f n : Nat} {acc : List UInt8} (h : ¬ (0 < n ∨ acc.length < wide)) : wdigAux b wide f n acc = acc := by
  cases f with
  | zero => rfl
  | succ f => rw [wdigAux, if_neg h]
theorem wdigAux_step {b wide f n : Nat} {acc : List UInt8} (h : 0 < n ∨ acc.length < wide) : wdigAux b wide (f + 1) n acc = wdigAux b wide f (n / b) (sgn (n % b) :: acc) := by
  rw [wdigAux, if_pos h]

theorem pow_step {b k n n0 : Nat} (hb : 1 ≤ b) (h : n * b ^ k ≤ n0) : n / b * b ^ (k + 1) ≤ n0 := by
  refine Nat.le_trans ?_ h
  rw [Nat.pow_succ, Nat.mul_comm (b ^ k) b, ← Nat.mul_assoc]
  exact Nat.mul_le_mul_right _ (Nat.div_mul_le_self n b)
theorem pow_room {b k n n0 : Nat} (hb : 10 ≤ b) (h : n * b ^ k ≤ n0) (hn : 0 < n) (h0 : n0 < 18446744073709551616) (hk : 20 ≤ k) : False := by
  have h1 : 10 ^ 20 ≤ b ^ k := Nat.le_trans (Nat.pow_le_pow_left hb 20) (Nat.pow_le_pow_right (by omega) hk)
  have h2 : 1 * b ^ k ≤ n * b ^ k := Nat.mul_le_mul_right _ hn
  omega

theorem zeros20 (j : Nat) (h : j < 20) : (#[Value.int .u8 0, Value.int .u8 0, Value.int .u8 0, Value.int .u8 0, Value.int .u8 0, Value.int .u8 0, Value.int .u8 0, Value.int .u8 0, Value.int .u8 0, Value.int .u8 0,
    Value.int .u8 0, Value.int .u8 0, Value.int .u8 0, Value.int .u8 0, Value.int .u8 0, Value.int .u8 0, Value.int .u8 0, Value.int .u8 0, Value.int .u8 0, Value.int .u8 0] : Array Value)[j]? = some (.int .u8 0) := by
  have : (#[Value.int .u8 0, Value.int .u8 0, Value.int .u8 0, Value.int .u8 0, Value.int .u8 0, Value.int .u8 0, Value.int .u8 0, Value.int .u8 0, Value.int .u8 0, Value.int .u8 0,
    Value.int .u8 0, Value.int .u8 0, Value.int .u8 0, Value.int .u8 0, Value.int .u8 0, Value.int .u8 0, Value.int .u8 0, Value.int .u8 0, Value.int .u8 0, Value.int .u8 0] : Array Value) = Array.replicate 20 (Value.int .u8 0) := rfl
  rw [this, Array.getElem?_replicate, if_pos h]

/-- What stands in the row: from place 'at' on the digits acc. -/
structure DigRow (B at' : Nat) (acc : List UInt8) (wr : World) : Prop where
  len : at' + acc.length = 20
  cell : ∀ j (h : j < acc.length), wr.cell? ⟨B, at' + j, none⟩ = some (.int .u8 (acc[j].toNat : Int))
  low : ∀ j, j < at' → ∃ n : Int, wr.cell? ⟨B, j, none⟩ = some (.int .u8 n)
  free : ∀ j, wr.frozen? ⟨B, j, none⟩ = false

theorem DigRow.store {B a : Nat} {acc : List UInt8} {wr : World} (h : DigRow B (a + 1) acc wr) (c : UInt8) : DigRow B a (c :: acc) (wr.setCell ⟨B, a, none⟩ (.int .u8 (c.toNat : Int))) := by
  obtain ⟨n, hn⟩ := h.low a (by omega)
  refine ⟨by have := h.len; simp; omega, fun j hj => ?_, fun j hj => ?_, fun j => by rw [World.frozen?_setCell]; exact h.free j⟩
  · cases j with
    | zero => exact World.cell?_setCell_same _ _ _ hn
    | succ j =>
      rw [World.cell?_setCell_other _ _ _ _ (by simp), show a + (j + 1) = a + 1 + j from by omega, h.cell j (by simpa using hj)]
      rfl
  · obtain ⟨m, hm⟩ := h.low j (by omega)
    exact ⟨m, by rw [World.cell?_setCell_other _ _ _ _ (by intro e; injection e with _ e; omega), hm]⟩

theorem DigRow.string {P : Program} {B a cap : Nat} {acc : List UInt8} {wr : World} {src dst e : TypeId} (h : DigRow B a acc wr) (hs : P.underlying src = some (.slice e)) (he : P.underlying e = some (.int .u8)) (hd : P.underlying dst = some .string) :
    (convert src dst (.slice (some ⟨B, a, none⟩) acc.length cap)).run P wr = .ok (.string ⟨acc.toArray⟩) wr :=
  run_convert_bytes_back (P := P) wr src dst e ⟨B, a, none⟩ cap acc hs he hd fun j hj => by
    rw [show (⟨B, a, none⟩ : Addr).add j = ⟨B, a + j, none⟩ from by rw [Addr.add_lit]]
    exact h.cell j hj

theorem Tryz.arr20 : Tryz.prog.underlying 124 = some (.array (Tryz.prog.arrayLen 124) (Tryz.prog.elem 124)) := by kernel_rfl
theorem Tryz.len20 : Tryz.prog.arrayLen 124 = 20 := by kernel_rfl
theorem Tryz.size20 (w : World) : (sizeOf (Tryz.prog.elem 124)).run Tryz.prog w = .ok 1 w := by kernel_rfl
theorem row_slice (B a : Nat) (h : a < 20) (w : World) : (Instr.sliceAt 124 (.pointer (some ⟨B, 0, none⟩)) (some (.int .i64 a)) none none).run Tryz.prog w = .ok (.slice (some ⟨B, a, none⟩) (20 - a) (20 - a)) w := by
  rw [run_sliceAt_array_l w 124 ⟨B, 0, none⟩ Tryz.arr20 .i64 a (by omega) (by rw [Tryz.len20]; omega), Tryz.size20]
  simp only [Result.andThen, slicedAt, Tryz.len20, Int.toNat_natCast]
  rw [if_neg (by omega), Addr.add_lit]
  simp
theorem signs_at (d : Nat) (h : d < 16) (h' : d < (⟨#[48, 49, 50, 51, 52, 53, 54, 55, 56, 57, 97, 98, 99, 100, 101, 102]⟩ : ByteArray).size) :
    ((⟨#[48, 49, 50, 51, 52, 53, 54, 55, 56, 57, 97, 98, 99, 100, 101, 102]⟩ : ByteArray)[d]'h') = sgn d := by
  have : ∀ d, (h : d < 16) → ((⟨#[48, 49, 50, 51, 52, 53, 54, 55, 56, 57, 97, 98, 99, 100, 101, 102]⟩ : ByteArray)[d]'h) = sgn d := by decide +kernel
  exact this d h

set_option maxRecDepth 100000 in
set_option maxHeartbeats 1000000 in
theorem write_10_any (n : Nat) (wide : Int) (w : World) (hn : n < 18446744073709551616) (hw0 : 1 ≤ wide) (hw1 : wide ≤ 20) :
    Calls Tryz.prog 117 #[.int .u64 n, .int .u64 10, .int .i64 wide] w fun e w' => e = .returned (.string ⟨(wdig 10 wide.toNat n).toArray⟩) ∧ Below w.heap.size w w' := by
  obtain ⟨wd, rfl⟩ := Int.eq_ofNat_of_zero_le (show 0 ≤ wide by omega)
  rw [Int.toNat_natCast]
  go_enter Tryz.func117, Tryz.ntmps117
  go_wp2
  go_outline
  go_loopw [0, 8] (fun v0 v8 wr => ∃ (m a : Nat) (acc : List UInt8), v0 = .int .u64 m ∧ v8 = .int .i64 a ∧ a ≤ 20 ∧ m * 10 ^ (20 - a) ≤ n ∧ wdigAux 10 wd a m acc = wdig 10 wd n ∧ DigRow w.heap.size a acc wr ∧ Below w.heap.size w wr) (fun _ i _ => (intOf i).toNat)
  case atStart =>
    refine ⟨n, 20, [], rfl, rfl, Nat.le_refl _, by simp, rfl, ⟨rfl, fun j h => by simp at h, fun j hj => ?_, fun j => ?_⟩, (Below.refl _ _).alloc (Nat.le_refl _) _⟩
    · exact ⟨0, by rw [World.cell?_alloc_at _ _ _ _ rfl]; exact zeros20 j hj⟩
    · exact World.frozen?_alloc_at _ _ _ _ rfl
  case round =>
    obtain ⟨m, a, acc, rfl, rfl, ha, hp, hd, hrow, hbel⟩ := hrel
    have HP := Lib.hid hp
    have HD := Lib.hid hd
    have hlen := hrow.len
    clear hp hd
    by_cases hgo : 0 < m ∨ acc.length < wd
    · have ha1 : 1 ≤ a := by
        rcases hgo with h | h
        · by_cases h1 : 1 ≤ a
          · exact h1
          · exact absurd (pow_room (by omega) HP.out h hn (by omega)) id
        · omega
      obtain ⟨a, rfl⟩ : ∃ a', a = a' + 1 := ⟨a - 1, by omega⟩
      obtain ⟨x, hx⟩ := hrow.low a (by omega)
      have hfr := hrow.free a
      have hmn : (m : Int) ≤ 18446744073709551615 := by
        have := Nat.le_mul_of_pos_right m (show 0 < 10 ^ (20 - (a + 1)) from Nat.pow_pos (by omega))
        have := HP.out
        omega
      have hg2 : 0 < m ∨ ((m : Int) ≤ 0 ∧ (20 : Int) - (a + 1) < wd) := by omega
      rcases hg2 with hg | ⟨hg, hg2⟩
      · go_wp2
        go_roundw
        case rel =>
          refine ⟨m / 10, a, sgn (m % 10) :: acc, by simp, rfl, by omega, ?_, ?_, ?_, hbel.setCell (Nat.le_refl _) _⟩
          · have := pow_step (b := 10) (by omega) HP.out
            rwa [show 20 - (a + 1) + 1 = 20 - a from by omega] at this
          · rw [← HD.out]; exact (wdigAux_step hgo).symm
          · rw [signs_at _ (by omega)]; exact hrow.store _
        case measure => simp [intOf]
      · obtain rfl : m = 0 := by omega
        clear hg
        go_wp2
        go_roundw
        case rel =>
          refine ⟨0, a, sgn 0 :: acc, rfl, rfl, by omega, by simp, ?_, ?_, hbel.setCell (Nat.le_refl _) _⟩
          · rw [← HD.out]; exact (wdigAux_step hgo).symm
          · exact hrow.store (sgn 0)
        case measure => simp [intOf]
    · have e1 : (m : Int) = 0 := by omega
      have e2 : (wd : Int) ≤ 20 - a := by omega
      have ha2 : a < 20 := by omega
      have hsl := fun wx => row_slice w.heap.size a ha2 wx
      have hal : 20 - a = acc.length := by omega
      rw [hal] at hsl
      have hcv := hrow.string (P := Tryz.prog) (cap := acc.length) (src := 58) (dst := 9) Tryz.underlying58 Tryz.underlying5 Tryz.underlying9
      have HD2 := Lib.hid ((wdigAux_stop (b := 10) (f := a) (show ¬ (0 < m ∨ acc.length < wd) from hgo)).symm.trans HD.out)
      clear hal
      go_wp2
      go_ret
      exact ⟨ret_str (by rw [← HD2.out]), hbel⟩

set_option maxRecDepth 100000 in
set_option maxHeartbeats 1000000 in
theorem write_16_any (n : Nat) (wide : Int) (w : World) (hn : n < 18446744073709551616) (hw0 : 1 ≤ wide) (hw1 : wide ≤ 20) :
    Calls Tryz.prog 117 #[.int .u64 n, .int .u64 16, .int .i64 wide] w fun e w' => e = .returned (.string ⟨(wdig 16 wide.toNat n).toArray⟩) ∧ Below w.heap.size w w' := by
  obtain ⟨wd, rfl⟩ := Int.eq_ofNat_of_zero_le (show 0 ≤ wide by omega)
  rw [Int.toNat_natCast]
  go_enter Tryz.func117, Tryz.ntmps117
  go_wp2
  go_outline
  go_loopw [0, 8] (fun v0 v8 wr => ∃ (m a : Nat) (acc : List UInt8), v0 = .int .u64 m ∧ v8 = .int .i64 a ∧ a ≤ 20 ∧ m * 16 ^ (20 - a) ≤ n ∧ wdigAux 16 wd a m acc = wdig 16 wd n ∧ DigRow w.heap.size a acc wr ∧ Below w.heap.size w wr) (fun _ i _ => (intOf i).toNat)
  case atStart =>
    refine ⟨n, 20, [], rfl, rfl, Nat.le_refl _, by simp, rfl, ⟨rfl, fun j h => by simp at h, fun j hj => ?_, fun j => ?_⟩, (Below.refl _ _).alloc (Nat.le_refl _) _⟩
    · exact ⟨0, by rw [World.cell?_alloc_at _ _ _ _ rfl]; exact zeros20 j hj⟩
    · exact World.frozen?_alloc_at _ _ _ _ rfl
  case round =>
    obtain ⟨m, a, acc, rfl, rfl, ha, hp, hd, hrow, hbel⟩ := hrel
    have HP := Lib.hid hp
    have HD := Lib.hid hd
    have hlen := hrow.len
    clear hp hd
    by_cases hgo : 0 < m ∨ acc.length < wd
    · have ha1 : 1 ≤ a := by
        rcases hgo with h | h
        · by_cases h1 : 1 ≤ a
          · exact h1
          · exact absurd (pow_room (by omega) HP.out h hn (by omega)) id
        · omega
      obtain ⟨a, rfl⟩ : ∃ a', a = a' + 1 := ⟨a - 1, by omega⟩
      obtain ⟨x, hx⟩ := hrow.low a (by omega)
      have hfr := hrow.free a
      have hmn : (m : Int) ≤ 18446744073709551615 := by
        have := Nat.le_mul_of_pos_right m (show 0 < 16 ^ (20 - (a + 1)) from Nat.pow_pos (by omega))
        have := HP.out
        omega
      have hg2 : 0 < m ∨ ((m : Int) ≤ 0 ∧ (20 : Int) - (a + 1) < wd) := by omega
      rcases hg2 with hg | ⟨hg, hg2⟩
      · go_wp2
        go_roundw
        case rel =>
          refine ⟨m / 16, a, sgn (m % 16) :: acc, by simp, rfl, by omega, ?_, ?_, ?_, hbel.setCell (Nat.le_refl _) _⟩
          · have := pow_step (b := 16) (by omega) HP.out
            rwa [show 20 - (a + 1) + 1 = 20 - a from by omega] at this
          · rw [← HD.out]; exact (wdigAux_step hgo).symm
          · rw [signs_at _ (by omega)]; exact hrow.store _
        case measure => simp [intOf]
      · obtain rfl : m = 0 := by omega
        clear hg
        go_wp2
        go_roundw
        case rel =>
          refine ⟨0, a, sgn 0 :: acc, rfl, rfl, by omega, by simp, ?_, ?_, hbel.setCell (Nat.le_refl _) _⟩
          · rw [← HD.out]; exact (wdigAux_step hgo).symm
          · exact hrow.store (sgn 0)
        case measure => simp [intOf]
    · have e1 : (m : Int) = 0 := by omega
      have e2 : (wd : Int) ≤ 20 - a := by omega
      have ha2 : a < 20 := by omega
      have hsl := fun wx => row_slice w.heap.size a ha2 wx
      have hal : 20 - a = acc.length := by omega
      rw [hal] at hsl
      have hcv := hrow.string (P := Tryz.prog) (cap := acc.length) (src := 58) (dst := 9) Tryz.underlying58 Tryz.underlying5 Tryz.underlying9
      have HD2 := Lib.hid ((wdigAux_stop (b := 16) (f := a) (show ¬ (0 < m ∨ acc.length < wd) from hgo)).symm.trans HD.out)
      clear hal
      go_wp2
      go_ret
      exact ⟨ret_str (by rw [← HD2.out]), hbel⟩
end Go.Proofs.YtcbfhlnnfnpkdaaGreatDoor
namespace Go.Proofs.YtcbfhlnnfnpkdaaGreatDoor
open Go.RowKit
set_option linter.unusedVariables false
set_option linter.unusedSimpArgs false

theorem foldl_lin (b : Nat) : ∀ (l : List UInt8) (a : Nat), l.foldl (fun a c => a * b + digV c.toNat) a = a * b ^ l.length + valN b l
  | [], a => by simp [valN]
  | c :: l, a => by
    have e1 := foldl_lin b l (a * b + digV c.toNat)
    have e2 : valN b (c :: l) = (0 * b + digV c.toNat) * b ^ l.length + valN b l := by rw [valN, List.foldl_cons]; exact foldl_lin b l (0 * b + digV c.toNat)
    rw [List.foldl_cons, e1, e2, List.length_cons, Nat.pow_succ, Nat.add_mul, Nat.mul_comm (b ^ l.length) b, ← Nat.mul_assoc]
    simp only [Nat.zero_mul, Nat.zero_add]
    omega
theorem valN_cons (b : Nat) (c : UInt8) (l : List UInt8) : valN b (c :: l) = digV c.toNat * b ^ l.length + valN b l := by
  have := foldl_lin b l (0 * b + digV c.toNat)
  rw [valN, List.foldl_cons, this]
  simp

theorem wdigAux_len (b wide : Nat) : ∀ (f n : Nat) (acc : List UInt8), acc.length ≤ (wdigAux b wide f n acc).length
  | 0, n, acc => Nat.le_refl _
  | f + 1, n, acc => by
    rw [wdigAux]
    split
    · have := wdigAux_len b wide f (n / b) (sgn (n % b) :: acc)
      simp at this; omega
    · exact Nat.le_refl _
theorem wdigAux_val (b wide : Nat) (hb : 2 ≤ b) (hb2 : b ≤ 16) : ∀ (f n : Nat) (acc : List UInt8), n < b ^ f → valN b (wdigAux b wide f n acc) = n * b ^ acc.length + valN b acc
  | 0, n, acc, h => by
    have : n = 0 := by simpa using h
    subst this; simp [wdigAux]
  | f + 1, n, acc, h => by
    rw [wdigAux]
    split
    · have hlt : n / b < b ^ f := by
        rw [Nat.div_lt_iff_lt_mul (by omega)]
        rwa [Nat.pow_succ] at h
      rw [wdigAux_val b wide hb hb2 f (n / b) _ hlt, valN_cons, digV_sgn _ (by have := Nat.mod_lt n (show 0 < b by omega); omega), List.length_cons, Nat.pow_succ, Nat.mul_comm (b ^ acc.length) b, ← Nat.mul_assoc]
      have e : n = n / b * b + n % b := by have := Nat.div_add_mod n b; rw [Nat.mul_comm] at this; omega
      have e2 : n * b ^ acc.length = n / b * b * b ^ acc.length + n % b * b ^ acc.length := by rw [← Nat.add_mul, ← e]
      omega
    · have : n = 0 := by omega
      subst this; simp
theorem wdigAux_ok (b wide : Nat) (hb : 2 ≤ b) (hb2 : b ≤ 16) : ∀ (f n : Nat) (acc : List UInt8), (∀ c ∈ acc, digV c.toNat < b) → ∀ c ∈ wdigAux b wide f n acc, digV c.toNat < b
  | 0, n, acc, h => h
  | f + 1, n, acc, h => by
    rw [wdigAux]
    split
    · refine wdigAux_ok b wide hb hb2 f _ _ fun c hc => ?_
      rcases List.mem_cons.1 hc with rfl | hc
      · have := Nat.mod_lt n (show 0 < b by omega)
        rw [digV_sgn _ (by omega)]; exact this
      · exact h c hc
    · exact h

theorem wdig_val (b wide n : Nat) (hb : 10 ≤ b) (hb2 : b ≤ 16) (hn : n < 18446744073709551616) : valN b (wdig b wide n) = n := by
  have h1 : 10 ^ 20 ≤ b ^ 20 := Nat.pow_le_pow_left hb 20
  rw [wdig, wdigAux_val b wide (by omega) hb2 20 n [] (by omega)]
  simp [valN]
theorem wdig_ok (b wide n : Nat) (hb : 10 ≤ b) (hb2 : b ≤ 16) : ∀ c ∈ wdig b wide n, digV c.toNat < b := wdigAux_ok b wide (by omega) hb2 20 n [] (by simp)
theorem wdig_ne (b wide n : Nat) (hw : 1 ≤ wide) : wdig b wide n ≠ [] := by
  intro h
  have h1 := wdigAux_step (b := b) (wide := wide) (f := 19) (n := n) (acc := []) (.inr hw)
  have h2 := wdigAux_len b wide 19 (n / b) [sgn (n % b)]
  rw [← h1] at h2
  have h3 : wdigAux b wide (19 + 1) n [] = [] := h
  rw [h3] at h2
  simp at h2

theorem wdigAux_len2 (b wide : Nat) : ∀ (f n : Nat) (acc : List UInt8), (wdigAux b wide f n acc).length ≤ acc.length + f
  | 0, n, acc => Nat.le_refl _
  | f + 1, n, acc => by
    rw [wdigAux]
    split
    · have := wdigAux_len2 b wide f (n / b) (sgn (n % b) :: acc)
      simp at this; omega
    · omega
theorem wdig_len (b wide n : Nat) : (wdig b wide n).length ≤ 20 := by
  have := wdigAux_len2 b wide 20 n []
  simpa [wdig] using this

def ofL (l : List UInt8) : ByteArray := ⟨l.toArray⟩
def textL (n : Int) : List UInt8 := if n < 0 then 45 :: wdig 10 1 (-n).toNat else wdig 10 1 n.toNat
def hexL (n : Int) : List UInt8 := if n < 0 then [] else wdig 16 1 n.toNat
def padL (n wide : Int) : List UInt8 := if n < 0 then textL n else wdig 10 (max 1 (min wide 20)).toNat n.toNat
theorem ofL_size (l : List UInt8) : (ofL l).size = l.length := by simp [ofL, ba_size]
theorem textL_len (n : Int) : (textL n).length ≤ 21 := by
  unfold textL
  split
  · have := wdig_len 10 1 (-n).toNat; simp; omega
  · have := wdig_len 10 1 n.toNat; omega

theorem u64_neg {n : Int} (h0 : -9223372036854775808 ≤ n) (h : n < 0) : IntKind.u64.wrap (-IntKind.u64.wrap n) = (((-n).toNat : Nat) : Int) := by
  simp [IntKind.wrap, IntKind.signed, IntKind.bits]; omega

set_option maxHeartbeats 400000 in
theorem text_any (n : Int) (w : World) (h0 : -9223372036854775808 ≤ n) (h1 : n ≤ 9223372036854775807) :
    Calls Tryz.prog 116 #[.int .i64 n] w fun e w' => e = .returned (.string (ofL (textL n))) ∧ Below w.heap.size w w' := by
  by_cases hn : n < 0
  · have ht : textL n = 45 :: wdig 10 1 (-n).toNat := by unfold textL; rw [if_pos hn]
    rw [ht]
    clear ht
    go_enter Tryz.func116, Tryz.ntmps116
    go_wp2_with fail
    rw [u64_neg h0 hn]
    refine (write_10_any _ _ _ (by omega) (by omega) (by omega)).mono ?_
    rintro e w1 ⟨rfl, hb1⟩
    have hadd : ∀ l : List UInt8, (⟨#[45]⟩ : ByteArray) ++ ⟨l.toArray⟩ = ofL (45 :: l) := fun l => ba_ext (by simp [ofL])
    have hl := wdig_len 10 1 (-n).toNat
    have HA := Lib.hid hadd
    clear hadd
    go_wp2_with fail
    go_ret
    exact ⟨ret_str (HA.out _), hb1⟩
  · obtain ⟨m, rfl⟩ := Int.eq_ofNat_of_zero_le (show 0 ≤ n by omega)
    have ht : textL m = wdig 10 1 m := by unfold textL; rw [if_neg hn, Int.toNat_natCast]
    rw [ht]
    clear ht
    go_enter Tryz.func116, Tryz.ntmps116
    go_wp2_with fail
    refine (write_10_any _ _ _ (by omega) (by omega) (by omega)).mono ?_
    rintro e w1 ⟨rfl, hb1⟩
    go_wp2_with fail
    go_ret
    exact ⟨rfl, hb1⟩

set_option maxHeartbeats 400000 in
theorem dec_any (s : ByteArray) (most : Int) (w : World) (hs : s.size ≤ maxLen) (hm0 : -9223372036854775808 ≤ most) (hm1 : most ≤ 9223372036854775807) :
    Calls Tryz.prog 69 #[.string s, .int .i64 most] w fun e w' => e = .returned (.tuple #[.int .i64 (numV 10 s most), .int .i64 (numE 10 s most)]) ∧ Below w.heap.size w w' := by
  go_enter Tryz.func69, Tryz.ntmps69
  go_wp2_with fail
  refine (read_10_any _ _ _ hs hm0 hm1).mono ?_
  rintro e w1 ⟨rfl, hb1⟩
  go_wp2
  go_ret2
  exact ⟨rfl, hb1⟩

set_option maxHeartbeats 400000 in
theorem pad_any (n wide : Int) (w : World) (h0 : -9223372036854775808 ≤ n) (h1 : n ≤ 9223372036854775807) (hw0 : -9223372036854775808 ≤ wide) (hw1 : wide ≤ 9223372036854775807) :
    Calls Tryz.prog 87 #[.int .i64 n, .int .i64 wide] w fun e w' => e = .returned (.string (ofL (padL n wide))) ∧ Below w.heap.size w w' := by
  by_cases hn : n < 0
  · have ht : padL n wide = textL n := by unfold padL; rw [if_pos hn]
    rw [ht]
    clear ht
    go_enter Tryz.func87, Tryz.ntmps87
    go_wp2_with fail
    refine (text_any _ _ h0 h1).mono ?_
    rintro e w1 ⟨rfl, hb1⟩
    go_wp2_with fail
    go_ret
    exact ⟨rfl, hb1⟩
  · obtain ⟨m, rfl⟩ := Int.eq_ofNat_of_zero_le (show 0 ≤ n by omega)
    have ht : padL m wide = wdig 10 (max 1 (min wide 20)).toNat m := by unfold padL; rw [if_neg hn, Int.toNat_natCast]
    rw [ht]
    clear ht
    have hc : (wide ≤ 1 ∧ max 1 (min wide 20) = 1) ∨ (1 < wide ∧ wide ≤ 20 ∧ max 1 (min wide 20) = wide) ∨ (20 < wide ∧ max 1 (min wide 20) = 20) := by omega
    rcases hc with ⟨g, e⟩ | ⟨g, g', e⟩ | ⟨g, e⟩
    all_goals
      rw [e]
      clear e
      go_enter Tryz.func87, Tryz.ntmps87
      go_wp2_with fail
    all_goals
      refine (write_10_any _ _ _ (by omega) (by omega) (by omega)).mono ?_
      rintro e w1 ⟨rfl, hb1⟩
      go_wp2_with fail
      go_ret
      exact ⟨rfl, hb1⟩

theorem ex2_hex : numV 16 ⟨#[49, 102]⟩ 100 = 31 ∧ numE 16 ⟨#[49, 102]⟩ 100 = 0 := by decide +kernel
theorem ex2_dec : numV 10 ⟨#[48, 48, 55]⟩ 6 = 0 ∧ numE 10 ⟨#[48, 48, 55]⟩ 6 = 5 := by decide +kernel
theorem ex2_pad : ofL (padL 7 2) = ⟨#[48, 55]⟩ := by decide +kernel
theorem ex2_hext : ofL (hexL 255) = ⟨#[102, 102]⟩ := by decide +kernel
theorem ex2_text : ofL (textL (-5)) = ⟨#[45, 53]⟩ := by decide +kernel

end Go.Proofs.YtcbfhlnnfnpkdaaGreatDoor
