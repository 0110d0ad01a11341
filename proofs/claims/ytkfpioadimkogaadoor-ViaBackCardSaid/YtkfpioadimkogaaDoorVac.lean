/- By whom a message came (layer 20): comments, words, versions, who may be one; both sides. -/
import Derived.Test.YtkfpioadimkogaaDoorVab
import Derived.Deep.DeepCutAuto
namespace Go.Proofs.YtkfpioadimkogaaDoor
open Go.RowKit
set_option linter.unusedVariables false
set_option linter.unusedSimpArgs false

theorem pre40 (s : ByteArray) : Lib.hasPrefix s.data.toList (⟨#[40]⟩ : ByteArray).data.toList = decide (0 < s.size ∧ bt s 0 = 40) := by
  rw [ba_size]
  cases h : s.data.toList with
  | nil => simp [Lib.hasPrefix]
  | cons c r =>
    have e : Lib.hasPrefix (c :: r) (⟨#[40]⟩ : ByteArray).data.toList = ((40 : UInt8) == c) := by simp [Lib.hasPrefix, List.isPrefixOf]
    rw [e, bt_cons h, Bool.eq_iff_iff, beq_iff_eq, decide_eq_true_eq]
    constructor
    · rintro rfl; exact ⟨by simp, rfl⟩
    · rintro ⟨_, h⟩; exact (UInt8.toNat_inj.1 (show c.toNat = (40 : UInt8).toNat from h)).symm
theorem va_pre_any (s : ByteArray) (w : World) : Calls Tryd.prog 89 #[.string s, .string ⟨#[40]⟩] w fun e w' => e = .returned (.bool (decide (0 < s.size ∧ bt s 0 = 40))) ∧ w = w' :=
  (Tryd.strings_HasPrefix s ⟨#[40]⟩ w).mono fun _ _ h => ⟨by rw [h.1, pre40], h.2.symm⟩
/-- Where the run over a text has come to: nothing of it is known; or, of one that begins with (, what is open. -/
def VaI (s : ByteArray) (p : Bool) (d e : Int) (k : Nat) : Prop :=
  -(k : Int) ≤ d ∧ d ≤ k ∧ (e = -1 ∨ (0 ≤ e ∧ e < s.size)) ∧
  ((0 < s.size ∧ bt s 0 = 40) → (k = 0 ∧ p = false ∧ d = 0 ∧ e = -1) ∨ (1 ≤ k ∧ 1 ≤ d ∧ e = -1 ∧ cloB s = clo (s.data.toList.drop k) p d.toNat) ∨ (1 ≤ k ∧ e = (k : Int) - 1 ∧ cloB s = decide (k = s.size)))
theorem va_drop (s : ByteArray) (k : Nat) (h : k < s.size) : s.data.toList.drop k = s[k] :: s.data.toList.drop (k + 1) := drop_at s k h
theorem va_isE (s : ByteArray) (k : Nat) (h : k < s.size) : (s.data.toList.drop (k + 1)).isEmpty = decide (k + 1 = s.size) := by
  rw [Bool.eq_iff_iff, List.isEmpty_iff_length_eq_zero, decide_eq_true_eq, List.length_drop, ← ba_size]
  omega
theorem VaI.next {s : ByteArray} {p : Bool} {d : Int} {k : Nat} (h : VaI s p d (-1) k) (hk : k < s.size) : VaI s (ceP p (bt s k)) (ceD p d (bt s k)) (ceE p d (-1) (bt s k) k) (k + 1) := by
  obtain ⟨h1, h2, h3, h4⟩ := h
  have hD : ceD p d (bt s k) = d ∨ ceD p d (bt s k) = d + 1 ∨ ceD p d (bt s k) = d - 1 := by
    unfold ceD
    repeat' split
    all_goals simp
  refine ⟨by omega, by omega, ?_, fun h0 => ?_⟩
  · unfold ceE
    split
    · right; omega
    · left; rfl
  · rcases h4 h0 with ⟨rfl, rfl, rfl, _⟩ | ⟨g1, g2, _, g3⟩ | ⟨g1, g2, _⟩
    · right; left
      have e1 : ceD false 0 (bt s 0) = 1 := by rw [h0.2]; rfl
      have e2 : ceP false (bt s 0) = false := by rw [h0.2]; rfl
      refine ⟨by omega, by omega, by unfold ceE; rw [e1]; rfl, ?_⟩
      rw [e1, e2]
      unfold cloB
      rw [decide_eq_true h0.1, h0.2]; rfl
    · rw [va_drop s k hk] at g3
      have hbt := bt_at s k hk
      cases p
      · by_cases c92 : bt s k = 92
        · right; left
          have e1 : ceD false d (bt s k) = d := by unfold ceD; rw [if_neg (by simp), if_neg (by omega), if_neg (by omega)]
          have e2 : ceP false (bt s k) = true := by rw [c92]; rfl
          refine ⟨by omega, by omega, by unfold ceE; rw [e1, if_neg (by omega)], ?_⟩
          rw [g3, e1, e2, clo, if_pos (by rw [hbt, c92])]
        · by_cases c40 : bt s k = 40
          · right; left
            have e1 : ceD false d (bt s k) = d + 1 := by unfold ceD; rw [if_neg (by simp), if_pos c40]
            have e2 : ceP false (bt s k) = false := by rw [c40]; rfl
            refine ⟨by omega, by omega, by unfold ceE; rw [e1, if_neg (by omega)], ?_⟩
            rw [g3, e1, e2, clo, if_neg (by rw [hbt]; omega), if_pos (by rw [hbt]; omega), show d.toNat + 1 = (d + 1).toNat by omega]
          · by_cases c41 : bt s k = 41
            · have e1 : ceD false d (bt s k) = d - 1 := by unfold ceD; rw [if_neg (by simp), if_neg c40, if_pos c41]
              have e2 : ceP false (bt s k) = false := by rw [c41]; rfl
              by_cases hd : d = 1
              · right; right
                refine ⟨by omega, by unfold ceE; rw [e1, if_pos (by omega)]; omega, ?_⟩
                rw [g3, clo, if_neg (by rw [hbt]; omega), if_neg (by rw [hbt]; omega), if_pos (by rw [hbt]; omega), if_pos (by omega), va_isE s k hk]
              · right; left
                refine ⟨by omega, by omega, by unfold ceE; rw [e1, if_neg (by omega)], ?_⟩
                rw [g3, e1, e2, clo, if_neg (by rw [hbt]; omega), if_neg (by rw [hbt]; omega), if_pos (by rw [hbt]; omega), if_neg (by omega), show d.toNat - 1 = (d - 1).toNat by omega]
            · right; left
              have e1 : ceD false d (bt s k) = d := by unfold ceD; rw [if_neg (by simp), if_neg c40, if_neg c41]
              have e2 : ceP false (bt s k) = false := by unfold ceP; rw [if_neg (by simp)]; exact decide_eq_false c92
              refine ⟨by omega, by omega, by unfold ceE; rw [e1, if_neg (by omega)], ?_⟩
              rw [g3, e1, e2, clo, if_neg (by rw [hbt]; omega), if_neg (by rw [hbt]; omega), if_neg (by rw [hbt]; omega)]
      · right; left
        have e1 : ceD true d (bt s k) = d := rfl
        refine ⟨by omega, by rw [e1]; omega, by unfold ceE; rw [e1, if_neg (by omega)], ?_⟩
        rw [g3, e1]; rfl
    · omega
/-- What the run tells in the end. -/
theorem VaI.last {s : ByteArray} {p : Bool} {d e : Int} {k : Nat} (h : VaI s p d e k) (h0 : 0 < s.size ∧ bt s 0 = 40) (hend : k = s.size ∨ 0 ≤ e) (hk : k ≤ s.size) : (e == (s.size : Int) - 1) = cloB s := by
  rcases h.2.2.2 h0 with ⟨rfl, rfl, rfl, rfl⟩ | ⟨g1, g2, rfl, g3⟩ | ⟨g1, rfl, g3⟩
  · have := h0.1; omega
  · have : k = s.size := by omega
    subst this
    rw [g3, List.drop_of_length_le (by rw [← ba_size]; omega)]
    rw [show clo [] p d.toNat = false by cases p <;> rfl]
    exact beq_eq_false_iff_ne.2 (by omega)
  · rw [g3, Bool.eq_iff_iff, beq_iff_eq, decide_eq_true_eq]
    omega
theorem cloB_no {s : ByteArray} (h : ¬ (0 < s.size ∧ bt s 0 = 40)) : cloB s = false := by
  unfold cloB
  by_cases h1 : 0 < s.size
  · rw [beq_eq_false_iff_ne.2 (fun q => h ⟨h1, q⟩), Bool.false_and, Bool.and_false]
  · rw [decide_eq_false h1]; rfl
theorem VaC.new (s : ByteArray) (w : World) : VaC s false 0 (-1) w.heap.size w ((((w.alloc (.cells #[.string s] 9)).alloc (.cells #[.bool false] 4)).alloc (.cells #[.int .i64 0] 3)).alloc (.cells #[.int .i64 (-1)] 3)) := by
  have a1 := Bl.new w 9 #[.string s]
  have a2 := Bl.new (w.alloc (.cells #[.string s] 9)) 4 #[.bool false]
  have a3 := Bl.new ((w.alloc (.cells #[.string s] 9)).alloc (.cells #[.bool false] 4)) 3 #[.int .i64 0]
  have a4 := Bl.new (((w.alloc (.cells #[.string s] 9)).alloc (.cells #[.bool false] 4)).alloc (.cells #[.int .i64 0] 3)) 3 #[.int .i64 (-1)]
  rw [World.size_alloc] at a2
  rw [World.size_alloc, World.size_alloc] at a3
  rw [World.size_alloc, World.size_alloc, World.size_alloc] at a4
  exact ⟨((a1.alloc _).alloc _).alloc _, (a2.alloc _).alloc _, a3.alloc _, a4, ((((Below.refl _ _).alloc (Nat.le_refl _) _).alloc (by simp) _).alloc (by simp; omega) _).alloc (by simp; omega) _⟩
theorem VaC.cells {s : ByteArray} {p : Bool} {d e : Int} {h : Nat} {w W : World} (H : VaC s p d e h w W) : W.cell? ⟨h, 0, none⟩ = some (.string s) ∧ W.cell? ⟨h + 3, 0, none⟩ = some (.int .i64 e) := ⟨H.b0.cell 0, H.b3.cell 0⟩
set_option maxRecDepth 100000 in
set_option maxHeartbeats 2000000 in
theorem va_closed_any (s : ByteArray) (w : World) (hs : s.size ≤ 900000) : Calls Tryd.prog 45 #[.string s] w fun e w' => e = .returned (.bool (cloB s)) ∧ Below w.heap.size w w' := by
  have N0 := Kp.mk (VaC.new s w)
  have HPX := Kp.mk (fun w => va_pre_any s w)
  go_enter Tryd.func45, Tryd.ntmps45
  go_wp2_with fail
  go_loopw [7] (fun i wr => ∃ (k : Nat) (p : Bool) (d e : Int), i = .int .i64 k ∧ k ≤ s.size ∧ VaC s p d e w.heap.size w wr ∧ VaI s p d e k) (fun i _ => s.size - (intOf i).toNat)
  case atStart => exact ⟨0, false, 0, -1, rfl, by omega, N0.out, by omega, by omega, .inl rfl, fun _ => .inl ⟨rfl, rfl, rfl, rfl⟩⟩
  case round =>
    obtain ⟨k, p, d, e, rfl, hk, hc, hi⟩ := hrel
    have HC := Kp.mk hc
    have HI := Kp.mk hi
    obtain ⟨c0, c3⟩ := hc.cells
    have hb1 := hi.1
    have hb2 := hi.2.1
    have he := hi.2.2.1
    clear hc hi
    by_cases hgo : k < s.size ∧ e = -1
    · obtain ⟨hlt, rfl⟩ := hgo
      have j2 : (k : Int) < (s.size : Int) := by omega
      have HNX := Kp.mk (HI.out.next hlt)
      go_wp2_with fail
      refine (va_see_any s p d (-1) k _ w _ HC.out hlt (by omega) (by omega) (by omega)).mono ?_
      rintro en w2 ⟨rfl, h2⟩
      have HC2 := Kp.mk h2
      clear h2 c0 c3
      go_wp2_with fail
      go_roundw
      case rel => exact ⟨k + 1, _, _, _, by go_num, by omega, HC2.out, HNX.out⟩
      case measure => simp [intOf] <;> omega
    · have hend : k = s.size ∨ 0 ≤ e := by omega
      by_cases h0 : 0 < s.size ∧ bt s 0 = 40
      · have HL := Kp.mk (HI.out.last h0 hend hk)
        have hsz : 0 < s.size := h0.1
        rw [decide_eq_true h0] at HPX
        clear hgo h0
        by_cases hlt : k < s.size
        · have j2 : (k : Int) < (s.size : Int) := by omega
          have j3 : ¬ e < 0 := by omega
          go_wp2_with fail
          refine (HPX.out _).mono ?_
          rintro en w2 ⟨rfl, rfl⟩
          go_wp2_with fail
          go_ret
          exact ⟨ret_bool HL.out, HC.out.bel⟩
        · have j2 : ¬ (k : Int) < (s.size : Int) := by omega
          go_wp2_with fail
          refine (HPX.out _).mono ?_
          rintro en w2 ⟨rfl, rfl⟩
          go_wp2_with fail
          go_ret
          exact ⟨ret_bool HL.out, HC.out.bel⟩
      · have HL := Kp.mk (cloB_no h0)
        rw [decide_eq_false h0] at HPX
        clear hgo h0
        by_cases hlt : k < s.size
        · have j2 : (k : Int) < (s.size : Int) := by omega
          have j3 : ¬ e < 0 := by omega
          go_wp2_with fail
          refine (HPX.out _).mono ?_
          rintro en w2 ⟨rfl, rfl⟩
          go_wp2_with fail
          go_ret
          exact ⟨ret_bool HL.out.symm, HC.out.bel⟩
        · have j2 : ¬ (k : Int) < (s.size : Int) := by omega
          go_wp2_with fail
          refine (HPX.out _).mono ?_
          rintro en w2 ⟨rfl, rfl⟩
          go_wp2_with fail
          go_ret
          exact ⟨ret_bool HL.out.symm, HC.out.bel⟩
set_option maxRecDepth 100000 in
set_option maxHeartbeats 1000000 in
theorem va_placed_any (s : ByteArray) (w : World) (hs : s.size ≤ 1000000) : Calls Tryd.prog 44 #[.string s] w fun e w' => e = .returned (.bool (vaPl s)) ∧ Below w.heap.size w w' := by
  have HD := Kp.mk (show hsRet s = .tuple #[.string (hsN s), .int .i64 (hsP s), .int .i64 (hsE s)] from rfl)
  have HV := Kp.mk (show vaPl s = (tokenB s || (hsE s == 0)) from rfl)
  have HT := Kp.mk (fun w => oct_token_any s w (by unfold maxLen; omega))
  generalize vaPl s = V at *
  generalize hsN s = N at *
  generalize hsP s = p at *
  generalize hsE s = E at *
  cases ht : tokenB s
  all_goals
    rw [ht] at HT HV
    have HV2 := HV.out
    simp only [Bool.true_or, Bool.false_or] at HV2
    have HV3 := Kp.mk HV2
    clear ht HV HV2
    go_enter Tryd.func44, Tryd.ntmps44
    go_wp2_with fail
    refine (hs_parse_any s _ hs).mono ?_
    rintro e w1 ⟨rfl, hb⟩
    rw [HD.out]
    have HB := Kp.mk hb
    clear hb
    go_wp2_with fail
    refine (HT.out _).mono ?_
    rintro e w2 ⟨rfl, hb⟩
    have HB2 := Kp.mk (HB.out.trans (hb.mono HB.out.size))
    clear hb
    go_wp2_with fail
    go_ret
    exact ⟨by rw [HV3.out]; rfl, HB2.out⟩
/-! ### Behind, of a whole text -/
def BhI (s : ByteArray) (k d : Nat) : Prop := (k = 0 ∧ d = 0) ∨ (1 ≤ k ∧ k ≤ s.size ∧ 1 ≤ d ∧ d ≤ k ∧ cloB s = clo (s.data.toList.drop k) false d) ∨ (1 ≤ k ∧ k = s.size + 1 ∧ d ≤ k ∧ cloB s = false)
def BhT (s : ByteArray) (w : World) (e : Ending) (w' : World) : Prop := ∃ j : Int, e = .returned (.int .i64 j) ∧ (j == (s.size : Int)) = cloB s ∧ w = w'
set_option maxRecDepth 100000 in
set_option maxHeartbeats 2000000 in
theorem va_behind_any (s : ByteArray) (w : World) (hs : s.size ≤ 1000000) (h0 : 0 < s.size) (hc : bt s 0 = 40) :
    Calls Tryd.prog 48 #[.string s, .int .i64 0] w (BhT s w) := by
  have hx := bt_at s 0 h0
  rw [hc] at hx
  have j1 : (0 : Int) < (s.size : Int) := by omega
  have HC := Kp.mk hc
  have H1 := Kp.mk (show cloB s = clo (s.data.toList.drop 1) false 1 by unfold cloB; rw [decide_eq_true h0, hc]; rfl)
  clear hc
  go_enter Tryd.func48, Tryd.ntmps48
  go_wp2_with fail
  go_loop [6, 7] (fun dv i => ∃ k d : Nat, dv = .int .i64 d ∧ i = .int .i64 k ∧ BhI s k d) (fun _ i => s.size + 1 - (intOf i).toNat)
  case atStart => exact ⟨0, 0, rfl, rfl, .inl ⟨rfl, rfl⟩⟩
  case round =>
    obtain ⟨k, d, rfl, rfl, hq⟩ := hrel
    rcases hq with ⟨rfl, rfl⟩ | ⟨hk, hk2, hd, hd2, hp⟩ | ⟨hk, rfl, hd2, hp⟩
    · go_wp2_with fail
      go_round
      case rel => exact ⟨1, 1, rfl, rfl, .inr (.inl ⟨by omega, by omega, by omega, by omega, H1.out⟩)⟩
      case measure => simp [intOf] <;> omega
    · clear hx j1
      by_cases hlt : k < s.size
      · have hx := bt_at s k hlt
        have q0 : (0 : Int) ≤ (k : Int) := by omega
        have q1 : (k : Int) < (s.size : Int) := by omega
        have q2 : (0 : Int) < (k : Int) := by omega
        have hdr := va_drop s k hlt
        rw [hdr] at hp
        clear hdr
        by_cases h92 : bt s k = 92
        · have HN := Kp.mk (show cloB s = clo (s.data.toList.drop (k + 1)) true d by rw [hp, clo, if_pos (by rw [hx, h92])])
          rw [h92] at hx
          clear hp h92
          go_wp2_with fail
          go_round
          case rel =>
            refine ⟨k + 2, d, rfl, by go_num, ?_⟩
            by_cases h2 : k + 2 ≤ s.size
            · refine .inr (.inl ⟨by omega, h2, hd, by omega, ?_⟩)
              rw [HN.out, va_drop s (k + 1) (by omega)]; rfl
            · refine .inr (.inr ⟨by omega, by omega, by omega, ?_⟩)
              rw [HN.out, List.drop_of_length_le (by rw [← ba_size]; omega)]; rfl
          case measure => simp [intOf] <;> omega
        · by_cases h40 : bt s k = 40
          · have HN := Kp.mk (show cloB s = clo (s.data.toList.drop (k + 1)) false (d + 1) by rw [hp, clo, if_neg (by rw [hx]; omega), if_pos (by rw [hx]; omega)])
            rw [h40] at hx
            clear hp h92 h40
            go_wp2_with fail
            go_round
            case rel => exact ⟨k + 1, d + 1, by go_num, by go_num, .inr (.inl ⟨by omega, by omega, by omega, by omega, HN.out⟩)⟩
            case measure => simp [intOf] <;> omega
          · by_cases h41 : bt s k = 41
            · rw [h41] at hx
              by_cases hd1 : d = 1
              · subst hd1
                have HN := Kp.mk (show cloB s = decide (k + 1 = s.size) by rw [hp, clo, if_neg (by rw [hx]; omega), if_neg (by rw [hx]; omega), if_pos (by rw [hx]), if_pos rfl, va_isE s k hlt])
                have HR := Kp.mk (show ((k : Int) + 1 == (s.size : Int)) = decide (k + 1 = s.size) by rw [Bool.eq_iff_iff, beq_iff_eq, decide_eq_true_eq]; omega)
                clear hp h92 h40 h41
                go_wp2_with fail
                go_ret
                exact ⟨_, rfl, by rw [HN.out, HR.out], rfl⟩
              · have HN := Kp.mk (show cloB s = clo (s.data.toList.drop (k + 1)) false (d - 1) by rw [hp, clo, if_neg (by rw [hx]; omega), if_neg (by rw [hx]; omega), if_pos (by rw [hx]), if_neg hd1])
                have q4 : ((d : Int) - 1 == 0) = false := beq_eq_false_iff_ne.2 (by omega)
                clear hp h92 h40 h41
                go_wp2_with fail
                go_round
                case rel => exact ⟨k + 1, d - 1, by go_num, by go_num, .inr (.inl ⟨by omega, by omega, by omega, by omega, HN.out⟩)⟩
                case measure => simp [intOf] <;> omega
            · have HN := Kp.mk (show cloB s = clo (s.data.toList.drop (k + 1)) false d by rw [hp, clo, if_neg (by rw [hx]; omega), if_neg (by rw [hx]; omega), if_neg (by rw [hx]; omega)])
              have q4 : ((bt s k : Int) == 92) = false := beq_eq_false_iff_ne.2 (by omega)
              have q5 : ((bt s k : Int) == 40) = false := beq_eq_false_iff_ne.2 (by omega)
              have q6 : ((bt s k : Int) == 41) = false := beq_eq_false_iff_ne.2 (by omega)
              clear hp h92 h40 h41
              go_wp2_with fail
              go_round
              case rel => exact ⟨k + 1, d, rfl, by go_num, .inr (.inl ⟨by omega, by omega, by omega, by omega, HN.out⟩)⟩
              case measure => simp [intOf] <;> omega
      · have HN := Kp.mk (show cloB s = false by rw [hp, List.drop_of_length_le (by rw [← ba_size]; omega)]; rfl)
        have q1 : ¬ (k : Int) < (s.size : Int) := by omega
        clear hp
        go_wp2_with fail
        go_ret
        exact ⟨_, rfl, by rw [HN.out]; exact beq_eq_false_iff_ne.2 (by omega), rfl⟩
    · have HN := Kp.mk hp
      clear hp hx j1
      have q1 : ¬ ((s.size : Int) + 1) < (s.size : Int) := by omega
      go_wp2_with fail
      go_ret
      exact ⟨_, rfl, by rw [HN.out]; exact beq_eq_false_iff_ne.2 (by omega), rfl⟩
end Go.Proofs.YtkfpioadimkogaaDoor
