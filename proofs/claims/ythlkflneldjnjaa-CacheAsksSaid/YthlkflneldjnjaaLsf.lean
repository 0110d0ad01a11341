/- Lists (layer 7): what is closed in; the document's. -/
import Derived.Test.YthlkflneldjnjaaLsb
import Derived.Test.YthlkflneldjnjaaProg
import Derived.Test.YthlkflneldjnjaaGb
namespace Go.Proofs.Ythlkflneldjnjaa
open Go.RowKit
set_option linter.unusedVariables false
set_option linter.unusedSimpArgs false

def BehT (s : ByteArray) (at_ fr : Nat) (out : List ByteArray) (w : World) (e : Ending) (w' : World) : Prop :=
  w = w' ∧ ((∃ j : Nat, at_ < j ∧ j ≤ s.size ∧ e = .returned (.int .i64 j) ∧ psAt s j = ⟨false, false, 0, fr, out⟩) ∨ (e = .returned (.int .i64 (-1)) ∧ psIn (psAt s s.size).q (psAt s s.size).d = true))
def QSt (s : ByteArray) (at_ fr : Nat) (out : List ByteArray) (k : Nat) : Prop :=
  (k = at_ ∧ bt s k = 34 ∧ psAt s k = ⟨false, false, 0, fr, out⟩) ∨ (at_ < k ∧ k ≤ s.size ∧ psAt s k = ⟨true, false, 0, fr, out⟩) ∨ (at_ < k ∧ k = s.size + 1 ∧ psIn (psAt s s.size).q (psAt s s.size).d = true)
set_option maxRecDepth 100000 in
set_option maxHeartbeats 2000000 in
theorem behind_q (s : ByteArray) (at_ fr : Nat) (out : List ByteArray) (w : World) (hs : s.size ≤ 200000000) (hat : at_ < s.size) (hc : bt s at_ = 34) (hp : psAt s at_ = ⟨false, false, 0, fr, out⟩) :
    Calls Try.prog 96 #[.string s, .int .i64 at_] w (BehT s at_ fr out w) := by
  have HQ := Kp.mk (show QSt s at_ fr out at_ from .inl ⟨rfl, hc, hp⟩)
  have hbt := bt_at s at_ hat
  rw [hc] at hbt
  have q0 : (0 : Int) ≤ (at_ : Int) := by omega
  have q1 : (at_ : Int) < (s.size : Int) := by omega
  clear hp hc
  go_enter Try.func96, Try.ntmps96
  go_wp2_with fail
  go_loop [7] (fun i => ∃ k : Nat, i = .int .i64 k ∧ QSt s at_ fr out k) (fun i => s.size + 1 - (intOf i).toNat)
  case atStart => exact ⟨at_, rfl, HQ.out⟩
  case round =>
    obtain ⟨k, rfl, hq⟩ := hrel
    clear HQ hbt q0 q1
    rcases hq with ⟨rfl, hc, hp⟩ | ⟨hk, hk2, hp⟩ | ⟨hk, rfl, hp⟩
    · have hbt := bt_at s k hat
      rw [hc] at hbt
      have q0 : (0 : Int) ≤ (k : Int) := by omega
      have q1 : (k : Int) < (s.size : Int) := by omega
      have HN := Kp.mk (ps_quote hp hc)
      clear hp hc
      go_wp2_with fail
      go_round
      case rel => exact ⟨k + 1, by go_num, .inr (.inl ⟨by omega, by omega, HN.out⟩)⟩
      case measure => simp [intOf]; omega
    · by_cases hlt : k < s.size
      · have hbt := bt_at s k hlt
        have q0 : (0 : Int) ≤ (k : Int) := by omega
        have q1 : (k : Int) < (s.size : Int) := by omega
        have q2 : (at_ : Int) < (k : Int) := by omega
        by_cases h92 : bt s k = 92
        · have HN := Kp.mk (ps_bs hp rfl h92)
          have HP := Kp.mk hp
          rw [h92] at hbt
          clear hp h92
          go_wp2_with fail
          go_round
          case rel =>
            refine ⟨k + 2, by go_num, ?_⟩
            by_cases h2 : k + 2 ≤ s.size
            · exact .inr (.inl ⟨by omega, h2, ps_passed HN.out rfl⟩)
            · refine .inr (.inr ⟨by omega, by omega, ?_⟩)
              rw [show s.size = k + 1 by omega, HN.out]
              rfl
          case measure => simp [intOf]; omega
        · by_cases h34 : bt s k = 34
          · have HN := Kp.mk (ps_unq hp h34)
            rw [h34] at hbt
            clear hp h92 h34
            go_wp2_with fail
            go_ret
            exact ⟨rfl, .inl ⟨k + 1, by omega, by omega, rfl, HN.out⟩⟩
          · have HN := Kp.mk (ps_inq hp h34 h92)
            generalize bt s k = c at *
            clear hp
            go_wp2_with fail
            go_round
            case rel => exact ⟨k + 1, by go_num, .inr (.inl ⟨by omega, by omega, HN.out⟩)⟩
            case measure => simp [intOf]; omega
      · have hk3 : k = s.size := by omega
        have HP := Kp.mk (show psIn (psAt s s.size).q (psAt s s.size).d = true by rw [← hk3, hp]; rfl)
        have q1 : ¬ (k : Int) < (s.size : Int) := by omega
        clear hp
        go_wp2_with fail
        go_ret
        exact ⟨rfl, .inr ⟨rfl, HP.out⟩⟩
    · have HP := Kp.mk hp
      have q1 : ¬ ((s.size + 1 : Nat) : Int) < (s.size : Int) := by omega
      clear hp
      go_wp2_with fail
      go_ret
      exact ⟨rfl, .inr ⟨rfl, HP.out⟩⟩
def DSt (s : ByteArray) (at_ fr : Nat) (out : List ByteArray) (k d : Nat) : Prop :=
  (k = at_ ∧ d = 0 ∧ bt s k = 40 ∧ psAt s k = ⟨false, false, 0, fr, out⟩) ∨ (at_ < k ∧ k ≤ s.size ∧ 0 < d ∧ d ≤ k ∧ psAt s k = ⟨false, false, d, fr, out⟩) ∨ (at_ < k ∧ k = s.size + 1 ∧ psIn (psAt s s.size).q (psAt s s.size).d = true)
set_option maxRecDepth 100000 in
set_option maxHeartbeats 2000000 in
theorem behind_p (s : ByteArray) (at_ fr : Nat) (out : List ByteArray) (w : World) (hs : s.size ≤ 200000000) (hat : at_ < s.size) (hc : bt s at_ = 40) (hp : psAt s at_ = ⟨false, false, 0, fr, out⟩) :
    Calls Try.prog 96 #[.string s, .int .i64 at_] w (BehT s at_ fr out w) := by
  have HQ := Kp.mk (show DSt s at_ fr out at_ 0 from .inl ⟨rfl, rfl, hc, hp⟩)
  have hbt := bt_at s at_ hat
  rw [hc] at hbt
  have q0 : (0 : Int) ≤ (at_ : Int) := by omega
  have q1 : (at_ : Int) < (s.size : Int) := by omega
  clear hp hc
  go_enter Try.func96, Try.ntmps96
  go_wp2_with fail
  go_loop [6, 7] (fun dv i => ∃ k d : Nat, dv = .int .i64 d ∧ i = .int .i64 k ∧ DSt s at_ fr out k d) (fun _ i => s.size + 1 - (intOf i).toNat)
  case atStart => exact ⟨at_, 0, rfl, rfl, HQ.out⟩
  case round =>
    obtain ⟨k, d, rfl, rfl, hq⟩ := hrel
    clear HQ hbt q0 q1
    rcases hq with ⟨rfl, rfl, hc, hp⟩ | ⟨hk, hk2, hd, hd2, hp⟩ | ⟨hk, rfl, hp⟩
    · have hbt := bt_at s k hat
      rw [hc] at hbt
      have q0 : (0 : Int) ≤ (k : Int) := by omega
      have q1 : (k : Int) < (s.size : Int) := by omega
      have HN := Kp.mk (ps_par hp hc)
      clear hp hc
      go_wp2_with fail
      go_round
      case rel => exact ⟨k + 1, 1, rfl, by go_num, .inr (.inl ⟨by omega, by omega, by omega, by omega, HN.out⟩)⟩
      case measure => simp [intOf]; omega
    · by_cases hlt : k < s.size
      · have hbt := bt_at s k hlt
        have q0 : (0 : Int) ≤ (k : Int) := by omega
        have q1 : (k : Int) < (s.size : Int) := by omega
        have q2 : (at_ : Int) < (k : Int) := by omega
        obtain ⟨d, rfl⟩ : ∃ d', d = d' + 1 := ⟨d - 1, by omega⟩
        by_cases h92 : bt s k = 92
        · have HN := Kp.mk (ps_bs hp (by simp [psIn]) h92)
          rw [h92] at hbt
          clear hp h92
          go_wp2_with fail
          go_round
          case rel =>
            refine ⟨k + 2, d + 1, rfl, by go_num, ?_⟩
            by_cases h2 : k + 2 ≤ s.size
            · exact .inr (.inl ⟨by omega, h2, by omega, by omega, ps_passed HN.out (by simp [psIn])⟩)
            · refine .inr (.inr ⟨by omega, by omega, ?_⟩)
              rw [show s.size = k + 1 by omega, HN.out]
              simp [psIn]
          case measure => simp [intOf]; omega
        · by_cases h40 : bt s k = 40
          · have HN := Kp.mk (ps_deep hp h40)
            rw [h40] at hbt
            clear hp h92 h40
            go_wp2_with fail
            go_round
            case rel => exact ⟨k + 1, d + 2, by go_num, by go_num, .inr (.inl ⟨by omega, by omega, by omega, by omega, HN.out⟩)⟩
            case measure => simp [intOf]; omega
          · by_cases h41 : bt s k = 41
            · have HN := Kp.mk (ps_less hp h41)
              rw [h41] at hbt
              clear hp h92 h40 h41
              by_cases hd0 : d = 0
              · subst hd0
                go_wp2_with fail
                go_ret
                exact ⟨rfl, .inl ⟨k + 1, by omega, by omega, rfl, HN.out⟩⟩
              · have q3 : ((d : Int) == 0) = false := by rw [beq_eq_false_iff_ne]; omega
                have q4 : ¬ ((d : Int) = 0) := by omega
                go_wp2_with fail
                go_round
                case rel => exact ⟨k + 1, d, by go_num, by go_num, .inr (.inl ⟨by omega, by omega, by omega, by omega, HN.out⟩)⟩
                case measure => simp [intOf]; omega
            · have HN := Kp.mk (ps_ind hp h40 h41 h92)
              generalize bt s k = c at *
              clear hp
              go_wp2_with fail
              go_round
              case rel => exact ⟨k + 1, d + 1, rfl, by go_num, .inr (.inl ⟨by omega, by omega, by omega, by omega, HN.out⟩)⟩
              case measure => simp [intOf]; omega
      · have hk3 : k = s.size := by omega
        have HP := Kp.mk (show psIn (psAt s s.size).q (psAt s s.size).d = true by rw [← hk3, hp]; simp [psIn]; exact hd)
        have q1 : ¬ (k : Int) < (s.size : Int) := by omega
        clear hp
        go_wp2_with fail
        go_ret
        exact ⟨rfl, .inr ⟨rfl, HP.out⟩⟩
    · have HP := Kp.mk hp
      have q1 : ¬ ((s.size + 1 : Nat) : Int) < (s.size : Int) := by omega
      clear hp
      go_wp2_with fail
      go_ret
      exact ⟨rfl, .inr ⟨rfl, HP.out⟩⟩
end Go.Proofs.Ythlkflneldjnjaa
