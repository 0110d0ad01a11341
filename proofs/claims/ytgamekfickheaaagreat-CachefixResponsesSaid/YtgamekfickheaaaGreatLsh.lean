/- Lists (layer 7): what is closed in; the document's. · Lists (layer 7): Split, the document's. · Lists (layer 7): whether a list has a word, on both sides. -/
import Derived.Test.YtgamekfickheaaaGreatLsb
import Derived.Test.YtgamekfickheaaaGreatProg
import Derived.Test.YtgamekfickheaaaGreatGb
import Derived.Test.YtgamekfickheaaaGreatLse
import Derived.Test.YtgamekfickheaaaGreatKeeps
namespace Go.Proofs.YtgamekfickheaaaGreat
open Go.RowKit
set_option linter.unusedVariables false
set_option linter.unusedSimpArgs false

def BehT (s : ByteArray) (at_ fr : Nat) (out : List ByteArray) (w : World) (e : Ending) (w' : World) : Prop :=
  w = w' ∧ ((∃ j : Nat, at_ < j ∧ j ≤ s.size ∧ e = .returned (.int .i64 j) ∧ psAt s j = ⟨false, false, 0, fr, out⟩) ∨ (e = .returned (.int .i64 (-1)) ∧ psIn (psAt s s.size).q (psAt s s.size).d = true))
def QSt (s : ByteArray) (at_ fr : Nat) (out : List ByteArray) (k : Nat) : Prop :=
  (k = at_ ∧ bt s k = 34 ∧ psAt s k = ⟨false, false, 0, fr, out⟩) ∨ (at_ < k ∧ k ≤ s.size ∧ psAt s k = ⟨true, false, 0, fr, out⟩) ∨ (at_ < k ∧ k = s.size + 1 ∧ psIn (psAt s s.size).q (psAt s s.size).d = true)
set_option maxRecDepth 100000 in
set_option maxHeartbeats 2000000 in
theorem behind_q (s : ByteArray) (at_ fr : Nat) (out : List ByteArray) (w : World) (hs : s.size ≤ 200000000) (hat : at_ < s.size) (hc : bt s at_ = 34) (hp : psAt s at_ = ⟨false, false, 0, fr, out⟩) :
    Calls Tryz.prog 90 #[.string s, .int .i64 at_] w (BehT s at_ fr out w) := by
  have HQ := Kp.mk (show QSt s at_ fr out at_ from .inl ⟨rfl, hc, hp⟩)
  have hbt := bt_at s at_ hat
  rw [hc] at hbt
  have q0 : (0 : Int) ≤ (at_ : Int) := by omega
  have q1 : (at_ : Int) < (s.size : Int) := by omega
  clear hp hc
  go_enter Tryz.func90, Tryz.ntmps90
  go_wp2_with fail
  go_loop [7] (fun i => ∃ k : Nat, i = .int .i64 k ∧ QSt s at_ fr out k) (fun i => s.size + 1 - (intOf i).toNat)
  case atStart => exact ⟨at_, rfl, HQ.out⟩
  case round =>
    obtain ⟨k, rfl, hq⟩ := hrel
    clear HQ hbt q0 q1
    rcases hq with ⟨rfl, hc, hp⟩ | ⟨hk, hk2, hp⟩ | ⟨hk, rfl, hp⟩
    · have hbt := bt_at s k hat
      rw [hc] at hbt
      have q0 : (0 : Int) ≤ (k : Int) := by omega
      have q1 : (k : Int) < (s.size : Int) := by omega
      have HN := Kp.mk (ps_quote hp hc)
      clear hp hc
      go_wp2_with fail
      go_round
      case rel => exact ⟨k + 1, by go_num, .inr (.inl ⟨by omega, by omega, HN.out⟩)⟩
      case measure => simp [intOf]; omega
    · by_cases hlt : k < s.size
      · have hbt := bt_at s k hlt
        have q0 : (0 : Int) ≤ (k : Int) := by omega
        have q1 : (k : Int) < (s.size : Int) := by omega
        have q2 : (at_ : Int) < (k : Int) := by omega
        by_cases h92 : bt s k = 92
        · have HN := Kp.mk (ps_bs hp rfl h92)
          have HP := Kp.mk hp
          rw [h92] at hbt
          clear hp h92
          go_wp2_with fail
          go_round
          case rel =>
            refine ⟨k + 2, by go_num, ?_⟩
            by_cases h2 : k + 2 ≤ s.size
            · exact .inr (.inl ⟨by omega, h2, ps_passed HN.out rfl⟩)
            · refine .inr (.inr ⟨by omega, by omega, ?_⟩)
              rw [show s.size = k + 1 by omega, HN.out]
              rfl
          case measure => simp [intOf]; omega
        · by_cases h34 : bt s k = 34
          · have HN := Kp.mk (ps_unq hp h34)
            rw [h34] at hbt
            clear hp h92 h34
            go_wp2_with fail
            go_ret
            exact ⟨rfl, .inl ⟨k + 1, by omega, by omega, rfl, HN.out⟩⟩
          · have HN := Kp.mk (ps_inq hp h34 h92)
            generalize bt s k = c at *
            clear hp
            go_wp2_with fail
            go_round
            case rel => exact ⟨k + 1, by go_num, .inr (.inl ⟨by omega, by omega, HN.out⟩)⟩
            case measure => simp [intOf]; omega
      · have hk3 : k = s.size := by omega
        have HP := Kp.mk (show psIn (psAt s s.size).q (psAt s s.size).d = true by rw [← hk3, hp]; rfl)
        have q1 : ¬ (k : Int) < (s.size : Int) := by omega
        clear hp
        go_wp2_with fail
        go_ret
        exact ⟨rfl, .inr ⟨rfl, HP.out⟩⟩
    · have HP := Kp.mk hp
      have q1 : ¬ ((s.size + 1 : Nat) : Int) < (s.size : Int) := by omega
      clear hp
      go_wp2_with fail
      go_ret
      exact ⟨rfl, .inr ⟨rfl, HP.out⟩⟩
def DSt (s : ByteArray) (at_ fr : Nat) (out : List ByteArray) (k d : Nat) : Prop :=
  (k = at_ ∧ d = 0 ∧ bt s k = 40 ∧ psAt s k = ⟨false, false, 0, fr, out⟩) ∨ (at_ < k ∧ k ≤ s.size ∧ 0 < d ∧ d ≤ k ∧ psAt s k = ⟨false, false, d, fr, out⟩) ∨ (at_ < k ∧ k = s.size + 1 ∧ psIn (psAt s s.size).q (psAt s s.size).d = true)
set_option maxRecDepth 100000 in
set_option maxHeartbeats 2000000 in
theorem behind_p (s : ByteArray) (at_ fr : Nat) (out : List ByteArray) (w : World) (hs : s.size ≤ 200000000) (hat : at_ < s.size) (hc : bt s at_ = 40) (hp : psAt s at_ = ⟨false, false, 0, fr, out⟩) :
    Calls Tryz.prog 90 #[.string s, .int .i64 at_] w (BehT s at_ fr out w) := by
  have HQ := Kp.mk (show DSt s at_ fr out at_ 0 from .inl ⟨rfl, rfl, hc, hp⟩)
  have hbt := bt_at s at_ hat
  rw [hc] at hbt
  have q0 : (0 : Int) ≤ (at_ : Int) := by omega
  have q1 : (at_ : Int) < (s.size : Int) := by omega
  clear hp hc
  go_enter Tryz.func90, Tryz.ntmps90
  go_wp2_with fail
  go_loop [6, 7] (fun dv i => ∃ k d : Nat, dv = .int .i64 d ∧ i = .int .i64 k ∧ DSt s at_ fr out k d) (fun _ i => s.size + 1 - (intOf i).toNat)
  case atStart => exact ⟨at_, 0, rfl, rfl, HQ.out⟩
  case round =>
    obtain ⟨k, d, rfl, rfl, hq⟩ := hrel
    clear HQ hbt q0 q1
    rcases hq with ⟨rfl, rfl, hc, hp⟩ | ⟨hk, hk2, hd, hd2, hp⟩ | ⟨hk, rfl, hp⟩
    · have hbt := bt_at s k hat
      rw [hc] at hbt
      have q0 : (0 : Int) ≤ (k : Int) := by omega
      have q1 : (k : Int) < (s.size : Int) := by omega
      have HN := Kp.mk (ps_par hp hc)
      clear hp hc
      go_wp2_with fail
      go_round
      case rel => exact ⟨k + 1, 1, rfl, by go_num, .inr (.inl ⟨by omega, by omega, by omega, by omega, HN.out⟩)⟩
      case measure => simp [intOf]; omega
    · by_cases hlt : k < s.size
      · have hbt := bt_at s k hlt
        have q0 : (0 : Int) ≤ (k : Int) := by omega
        have q1 : (k : Int) < (s.size : Int) := by omega
        have q2 : (at_ : Int) < (k : Int) := by omega
        obtain ⟨d, rfl⟩ : ∃ d', d = d' + 1 := ⟨d - 1, by omega⟩
        by_cases h92 : bt s k = 92
        · have HN := Kp.mk (ps_bs hp (by simp [psIn]) h92)
          rw [h92] at hbt
          clear hp h92
          go_wp2_with fail
          go_round
          case rel =>
            refine ⟨k + 2, d + 1, rfl, by go_num, ?_⟩
            by_cases h2 : k + 2 ≤ s.size
            · exact .inr (.inl ⟨by omega, h2, by omega, by omega, ps_passed HN.out (by simp [psIn])⟩)
            · refine .inr (.inr ⟨by omega, by omega, ?_⟩)
              rw [show s.size = k + 1 by omega, HN.out]
              simp [psIn]
          case measure => simp [intOf]; omega
        · by_cases h40 : bt s k = 40
          · have HN := Kp.mk (ps_deep hp h40)
            rw [h40] at hbt
            clear hp h92 h40
            go_wp2_with fail
            go_round
            case rel => exact ⟨k + 1, d + 2, by go_num, by go_num, .inr (.inl ⟨by omega, by omega, by omega, by omega, HN.out⟩)⟩
            case measure => simp [intOf]; omega
          · by_cases h41 : bt s k = 41
            · have HN := Kp.mk (ps_less hp h41)
              rw [h41] at hbt
              clear hp h92 h40 h41
              by_cases hd0 : d = 0
              · subst hd0
                go_wp2_with fail
                go_ret
                exact ⟨rfl, .inl ⟨k + 1, by omega, by omega, rfl, HN.out⟩⟩
              · have q3 : ((d : Int) == 0) = false := by rw [beq_eq_false_iff_ne]; omega
                have q4 : ¬ ((d : Int) = 0) := by omega
                go_wp2_with fail
                go_round
                case rel => exact ⟨k + 1, d, by go_num, by go_num, .inr (.inl ⟨by omega, by omega, by omega, by omega, HN.out⟩)⟩
                case measure => simp [intOf]; omega
            · have HN := Kp.mk (ps_ind hp h40 h41 h92)
              generalize bt s k = c at *
              clear hp
              go_wp2_with fail
              go_round
              case rel => exact ⟨k + 1, d + 1, rfl, by go_num, .inr (.inl ⟨by omega, by omega, by omega, by omega, HN.out⟩)⟩
              case measure => simp [intOf]; omega
      · have hk3 : k = s.size := by omega
        have HP := Kp.mk (show psIn (psAt s s.size).q (psAt s s.size).d = true by rw [← hk3, hp]; simp [psIn]; exact hd)
        have q1 : ¬ (k : Int) < (s.size : Int) := by omega
        clear hp
        go_wp2_with fail
        go_ret
        exact ⟨rfl, .inr ⟨rfl, HP.out⟩⟩
    · have HP := Kp.mk hp
      have q1 : ¬ ((s.size + 1 : Nat) : Int) < (s.size : Int) := by omega
      clear hp
      go_wp2_with fail
      go_ret
      exact ⟨rfl, .inr ⟨rfl, HP.out⟩⟩
end Go.Proofs.YtgamekfickheaaaGreat
namespace Go.Proofs.YtgamekfickheaaaGreat
open Go.RowKit
set_option linter.unusedVariables false
set_option linter.unusedSimpArgs false

theorem rds_cells2 {w : World} {a : Option Addr} {c n : Nat} {l : List ByteArray} (h : RdS w (.slice a n c) l) (h0 : 0 < l.length) : ∃ b o, a = some ⟨b, o, none⟩ ∧ b < w.heap.size ∧ ∀ (j : Nat) (h : j < l.length), w.cell? ⟨b, o + j, none⟩ = some (.string l[j]) := rds_cells h h0
theorem someL_take {L : List ByteArray} {k : Nat} (h : k < L.length) : someL ((L.take (k + 1)).map trimB) = someL ((L.take k).map trimB) ++ (if (trimB L[k]).size ≠ 0 then [trimB L[k]] else []) := by
  rw [take_snocB _ _ h, List.map_append]
  exact someL_snoc _ _
def somT (L : List ByteArray) (k : Nat) : List ByteArray := someL ((L.take k).map trimB)
theorem somT_take {L : List ByteArray} {k : Nat} (h : k < L.length) : somT L (k + 1) = somT L k ++ (if (trimB L[k]).size ≠ 0 then [trimB L[k]] else []) := someL_take h
theorem somT_len (L : List ByteArray) (k : Nat) : (somT L k).length ≤ L.length := by
  have := someL_len ((L.take k).map trimB)
  rw [List.length_map, List.length_take] at this
  unfold somT
  omega
theorem somT_all {L : List ByteArray} {k : Nat} (h : L.length ≤ k) : somT L k = someL (L.map trimB) := by unfold somT; rw [List.take_of_length_le h]
set_option maxRecDepth 100000 in
set_option maxHeartbeats 2000000 in
theorem rsplit_any (s : ByteArray) (w : World) (hs : s.size ≤ 200000000) : Calls Tryz.prog 65 #[.string s] w (RetSp s w) := by
  have hszA : w.heap.size ≤ (w.alloc (.cells #[] 9)).heap.size := by simp
  have HO0 := Kp.mk (World.ownsRow_lit (base := w.heap.size) (e := 9) (size := 1) w #[] 0 (Nat.le_refl _) (by unfold maxLen; omega) rfl)
  have HB0 := Kp.mk ((Below.refl w.heap.size w).alloc (Nat.le_refl _) (.cells #[] 9))
  go_enter Tryz.func65, Tryz.ntmps65
  go_wp2_with fail
  go_loopw [4, 5, 6] (fun ov fv iv wr => ∃ (k fr : Nat) (out : List ByteArray), iv = .int .i64 k ∧ fv = .int .i64 fr ∧ k ≤ s.size ∧ psAt s k = ⟨false, false, 0, fr, out⟩ ∧ wr.ownsRow w.heap.size 9 1 ov out.length (svH out) ∧ Below w.heap.size w wr) (fun _ _ iv _ => s.size - (intOf iv).toNat)
  case atStart => exact ⟨0, 0, [], rfl, rfl, by omega, rfl, HO0.out, HB0.out⟩
  case round =>
    obtain ⟨k, fr, out, rfl, rfl, hk, hp, hown, hb⟩ := hrel
    obtain ⟨av, cv, rfl⟩ := own_lenH hown
    have hfr : fr ≤ k := by have := psAt_fr s k; rw [hp] at this; exact this
    have hol : out.length ≤ k := by have := psAt_out s k; rw [hp] at this; exact this
    have HOW := Kp.mk hown
    have HB := Kp.mk hb
    have HP := Kp.mk hp
    have hsz := hb.size
    have hlen : (out.length + 1) * 16 ≤ 140737488355328 := by omega
    have hmx : out.length + 1 ≤ maxLen := by unfold maxLen; omega
    clear hown hb hp
    have q0 : (0 : Int) ≤ (k : Int) := by omega
    have q5 : (fr : Int) ≤ (k : Int) := by omega
    by_cases hlt : k < s.size
    · have q1 : (k : Int) < (s.size : Int) := by omega
      have hbt := bt_at s k hlt
      by_cases hin : bt s k = 34 ∨ bt s k = 40
      · have HBE := Kp.mk (show ∀ W, Calls Tryz.prog 90 #[.string s, .int .i64 k] W (BehT s k fr out W) from fun W => by
          rcases hin with h | h
          · exact behind_q s k fr out W hs hlt h HP.out
          · exact behind_p s k fr out W hs hlt h HP.out)
        rcases hin with hc | hc
        all_goals
          rw [hc] at hbt
          clear hc
          go_wp2_with fail
          refine (HBE.out _).mono ?_
          rintro e w2 ⟨rfl, (⟨j, hj1, hj2, rfl, hj3⟩ | ⟨rfl, hin2⟩)⟩
          · have HJ := Kp.mk hj3
            clear hj3
            have q7 : ¬ (j : Int) < 0 := by omega
            go_wp2_with fail
            go_roundw
            case rel => exact ⟨j, fr, out, rfl, rfl, hj2, HJ.out, HOW.out, HB.out⟩
            case measure => simp [intOf]; omega
          · obtain ⟨e1, e2⟩ := spl_within hin2
            have E1 := Kp.mk e1
            have E2 := Kp.mk e2
            clear e1 e2 hin2
            go_wp2_with fail
            go_ret2
            exact ⟨.slice none 0 0, by rw [E1.out]; rfl, by rw [E2.out]; exact World.ownsRow_nil _ _ _ _, HB.out⟩
      · have h34 : bt s k ≠ 34 := fun e => hin (.inl e)
        have h40 : bt s k ≠ 40 := fun e => hin (.inr e)
        clear hin
        by_cases h44 : bt s k = 44
        · have HN := Kp.mk (ps_comma HP.out h44)
          rw [h44] at hbt
          clear h34 h40 h44
          go_wp2_with (at_builtin; refine app_any rfl _ _ _ _ rfl Tryz.underlying54 _ _ _ Tryz.infoSH rfl (by omega) w.heap.size _ _ _ rfl HOW.out #[.string (s.extract fr k)] rfl (fun u hu => by simp at hu; subst hu; rfl) _ rfl rfl hlen hmx hsz ?_; intro g' cap' w' h1 h2 h3; have G1 := Kp.mk h1; have G2 := Kp.mk h2; clear h1 h2 h3)
          go_roundw
          case rel =>
            refine ⟨k + 1, k + 1, out ++ [s.extract fr k], by go_num, by go_num, by omega, HN.out, ?_, HB.out.trans (grown_bel HOW.out hsz G2.out)⟩
            rw [List.length_append, svH_snoc]
            exact G1.out
          case measure => simp [intOf]; omega
        · have HN := Kp.mk (ps_plain HP.out h34 h40 h44)
          generalize bt s k = c at *
          have q34 : ((c : Int) == 34) = false := by rw [beq_eq_false_iff_ne]; omega
          have q40 : ((c : Int) == 40) = false := by rw [beq_eq_false_iff_ne]; omega
          have q44 : ((c : Int) == 44) = false := by rw [beq_eq_false_iff_ne]; omega
          go_wp2_with fail
          go_roundw
          case rel => exact ⟨k + 1, fr, out, by go_num, rfl, by omega, HN.out, HOW.out, HB.out⟩
          case measure => simp [intOf]; omega
    · obtain rfl : k = s.size := by omega
      obtain ⟨e1, e2⟩ := spl_open HP.out
      have E1 := Kp.mk e1
      have E2 := Kp.mk e2
      clear e1 e2
      go_wp2_with (at_builtin; refine app_any rfl _ _ _ _ rfl Tryz.underlying54 _ _ _ Tryz.infoSH rfl (by omega) w.heap.size _ _ _ rfl HOW.out #[.string (s.extract fr s.size)] rfl (fun u hu => by simp at hu; subst hu; rfl) _ rfl rfl hlen hmx hsz ?_; intro g' cap' w' h1 h2 h3; have G1 := Kp.mk h1; have G2 := Kp.mk (grown_bel HOW.out hsz h2); clear h1 h2 h3; have hgz := (G1.out.lt g' rfl).2)
      have hL : (out ++ [s.extract fr s.size]).length = out.length + 1 := by simp
      have HR := Kp.mk (rds_own (w := w') (l := out ++ [s.extract fr s.size]) (by rw [hL, svH_snoc]; exact G1.out))
      have HSM := Kp.mk (show ∀ x ∈ out ++ [s.extract fr s.size], x.size ≤ s.size from fun x hx => by
        rw [List.mem_append, List.mem_singleton] at hx
        rcases hx with hx | rfl
        · have h9 := psAt_sm s s.size (Nat.le_refl _) x
          rw [HP.out] at h9
          exact h9 hx
        · simp)
      have hL2 : (out ++ [s.extract fr s.size]).length ≤ 200000001 := by omega
      rw [← hL] at *
      generalize hLL : out ++ [s.extract fr s.size] = L at *
      clear hLL
      have HBA := Kp.mk ((Below.refl w'.heap.size w').alloc (Nat.le_refl _) (.cells #[] 9))
      have HO2 := Kp.mk (World.ownsRow_lit (base := w'.heap.size) (e := 9) (size := 1) w' #[] 0 (Nat.le_refl _) (by unfold maxLen; omega) rfl)
      go_loopw [7, 8] (fun sv iv wr => ∃ k : Nat, k ≤ L.length ∧ iv = .int .i64 k ∧ wr.ownsRow w'.heap.size 9 1 sv (somT L k).length (svH (somT L k)) ∧ Below w'.heap.size w' wr) (fun _ iv _ => L.length - (intOf iv).toNat)
      case atStart => exact ⟨0, by omega, rfl, HO2.out, HBA.out⟩
      case round =>
        obtain ⟨k, hk, rfl, hown, hb⟩ := hrel
        obtain ⟨av2, cv2, rfl⟩ := own_lenH hown
        have HOW2 := Kp.mk hown
        have HB2 := Kp.mk hb
        have hsz2 := hb.size
        have hle := somT_len L k
        clear hown hb
        by_cases hlt : k < L.length
        · obtain ⟨g, o, he, hgl, d0⟩ := rds_cells (HR.out.below HB2.out) (by omega)
          cases he
          have c1 := d0 k hlt
          rw [Nat.zero_add] at c1
          have hm := HSM.out L[k] (List.getElem_mem hlt)
          have q2 : (0 : Int) ≤ (k : Int) := by omega
          have q3 : (k : Int) < (L.length : Int) := by omega
          have HT := Kp.mk (somT_take hlt)
          clear d0
          generalize L[k] = x at *
          go_wp2_with fail
          refine (ref_trim_any x _ (by unfold maxLen; omega)).mono ?_
          rintro e w5 ⟨rfl, rfl⟩
          generalize trimB x = y at *
          by_cases hx : y.size = 0
          · have he : y = ⟨#[]⟩ := (ByteArray.size_eq_zero_iff.1 hx).trans rfl
            subst he
            have HS2 := Kp.mk (HT.out.trans (List.append_nil _))
            clear hx
            go_wp2_with fail
            go_roundw
            case rel => exact ⟨k + 1, by omega, by go_num, by rw [HS2.out]; exact HOW2.out, HB2.out⟩
            case measure => simp [intOf]; omega
          · have HS2 := Kp.mk (HT.out.trans (by rw [if_pos hx]))
            have hx2 : ¬ y.toList = [] := fun e => hx (by rw [ba_size', ← ByteArray.toList_eq, e]; rfl)
            have hx3 : y.toList.isEmpty = false := by rw [List.isEmpty_eq_false_iff]; exact hx2
            generalize hQQ : somT L k = Q at *
            have hlen2 : (Q.length + 1) * 16 ≤ 140737488355328 := by omega
            have hmx2 : Q.length + 1 ≤ maxLen := by unfold maxLen; omega
            clear hx
            go_wp2_with (at_builtin; refine app_any rfl _ _ _ _ rfl Tryz.underlying54 _ _ _ Tryz.infoSH rfl (by omega) w'.heap.size _ _ _ rfl HOW2.out #[.string y] rfl (fun u hu => by simp at hu; subst hu; rfl) _ rfl rfl hlen2 hmx2 hsz2 ?_; intro g9 cap9 w9 h1 h2 h3; have G3 := Kp.mk h1; have G4 := Kp.mk (grown_bel HOW2.out hsz2 h2); clear h1 h2 h3)
            go_roundw
            case rel =>
              refine ⟨k + 1, by omega, by go_num, ?_, HB2.out.trans G4.out⟩
              rw [HS2.out, List.length_append, svH_snoc]
              exact G3.out
            case measure => simp [intOf]; omega
        · have HK := Kp.mk (somT_all (L := L) (k := k) (by omega))
          go_wp2_with fail
          go_ret2
          refine ⟨.slice av2 (somT L k).length cv2, by rw [E1.out]; rfl, ?_, ?_⟩
          · rw [E2.out]
            have h9 := HOW2.out
            rw [HK.out] at h9 ⊢
            exact own_low h9 (Nat.le_trans hsz G2.out.size)
          · exact HB.out.trans (G2.out.trans (HB2.out.mono (Nat.le_trans hsz G2.out.size)))
end Go.Proofs.YtgamekfickheaaaGreat
namespace Go.Proofs.YtgamekfickheaaaGreat
open Go.RowKit
set_option linter.unusedVariables false
set_option linter.unusedSimpArgs false

theorem someL_mem {l : List ByteArray} {x : ByteArray} (h : x ∈ someL l) : x ∈ l ∧ x.size ≠ 0 := by
  unfold someL at h
  rw [List.mem_filter] at h
  exact ⟨h.1, of_decide_eq_true h.2⟩
theorem splL_mem {s x : ByteArray} (h : x ∈ splL s) : x.size ≠ 0 ∧ x.size ≤ s.size := by
  unfold splL at h
  split at h
  · obtain ⟨h1, h2⟩ := someL_mem h
    refine ⟨h2, ?_⟩
    rw [List.mem_map] at h1
    obtain ⟨r, hr, rfl⟩ := h1
    have h3 := trimB_size r
    rw [List.mem_append, List.mem_singleton] at hr
    rcases hr with hr | rfl
    · have := psAt_sm s s.size (Nat.le_refl _) r hr
      omega
    · simp at h3
      omega
  · cases h
theorem splL_len (s : ByteArray) : (splL s).length ≤ s.size + 1 := by
  have := psAt_out s s.size
  unfold splL
  split
  · refine Nat.le_trans (someL_len _) ?_
    rw [List.length_map, List.length_append]
    simp
    omega
  · simp
def hasL (word : ByteArray) (l : List ByteArray) : Bool := l.any fun x => foldB x word
/-- P7.2. -/
def hasB (s word : ByteArray) : Bool := hasL word (splL s)
theorem hasL_take {x : ByteArray} {l : List ByteArray} {k : Nat} (h : k < l.length) : hasL x (l.take (k + 1)) = (hasL x (l.take k) || foldB l[k] x) := by
  unfold hasL
  rw [List.take_succ_eq_append_getElem h, List.any_append]
  simp
theorem hasL_hit {x : ByteArray} {l : List ByteArray} {k : Nat} (h : k < l.length) (hf : foldB l[k] x = true) : hasL x l = true := List.any_eq_true.2 ⟨_, List.getElem_mem h, hf⟩
set_option maxRecDepth 100000 in
set_option maxHeartbeats 1000000 in
theorem has_any (s word : ByteArray) (w : World) (hs : s.size ≤ 200000000) (hw : word.size ≤ 200000000) :
    Calls Tryz.prog 34 #[.string s, .string word] w fun e w' => e = .returned (.bool (hasB s word)) ∧ Below w.heap.size w w' := by
  have HM := Kp.mk (fun x (h : x ∈ splL s) => (splL_mem h).2)
  have hln := splL_len s
  have HD := Kp.mk (show hasB s word = hasL word (splL s) from rfl)
  go_enter Tryz.func34, Tryz.ntmps34
  go_wp2_with fail
  refine (split_any s _ (by omega)).mono ?_
  rintro e w1 ⟨v, rfl, ho, hb1⟩
  have HR := Kp.mk (rds_own ho)
  have HB1 := Kp.mk hb1
  obtain ⟨a, c, rfl⟩ := own_lenH ho
  clear ho hb1
  generalize splL s = L at *
  generalize splB s = b at *
  go_wp2_with fail
  go_loopw [16] (fun i wr => ∃ k : Nat, k ≤ L.length ∧ i = .int .i64 k ∧ hasL word (L.take k) = false ∧ Below w1.heap.size w1 wr) (fun i _ => L.length - (intOf i).toNat)
  case atStart => exact ⟨0, by omega, rfl, rfl, Below.refl _ _⟩
  case round =>
    obtain ⟨k, hk, rfl, hh, hb⟩ := hrel
    have HB := Kp.mk hb
    have HH := Kp.mk hh
    have HBW := Kp.mk (HB1.out.trans (hb.mono HB1.out.size))
    clear hh hb
    by_cases hlt : k < L.length
    · obtain ⟨g, o, rfl, hgl, d0⟩ := rds_cells (HR.out.below HB.out) (by omega)
      have c1 := d0 k hlt
      have m1 := HM.out L[k] (List.getElem_mem hlt)
      have q0 : (0 : Int) ≤ (k : Int) := by omega
      have q1 : (k : Int) < (L.length : Int) := by omega
      have HT := Kp.mk (hasL_take (x := word) hlt)
      have HHit := Kp.mk (hasL_hit (x := word) hlt)
      clear d0
      generalize L[k] = x at *
      go_wp2_with fail
      refine (oct_fold_any x word _ (by omega) (by omega)).mono ?_
      rintro e w2 ⟨rfl, hb2⟩
      have HB2 := Kp.mk (HB.out.trans (hb2.mono HB.out.size))
      have HBW2 := Kp.mk (HBW.out.trans (hb2.mono HBW.out.size))
      clear hb2
      cases hf : foldB x word
      · have HT2 := Kp.mk (show hasL word (L.take (k + 1)) = false by rw [HT.out, hf, HH.out]; rfl)
        go_wp2_with fail
        go_roundw
        case rel => exact ⟨k + 1, by omega, by go_num, HT2.out, HB2.out⟩
        case measure => simp [intOf]; omega
      · have HT2 := Kp.mk (HHit.out hf)
        go_wp2_with fail
        go_ret
        exact ⟨by rw [HD.out, HT2.out]; rfl, HBW2.out⟩
    · have HK := Kp.mk (show hasL word L = false by have := HH.out; rwa [List.take_of_length_le (by omega)] at this)
      go_wp2_with fail
      go_ret
      exact ⟨by rw [HD.out, HK.out]; rfl, HBW.out⟩
set_option maxRecDepth 100000 in
set_option maxHeartbeats 1000000 in
theorem rhas_any (s word : ByteArray) (w : World) (hs : s.size ≤ 200000000) (hw : word.size ≤ 200000000) :
    Calls Tryz.prog 38 #[.string s, .string word] w fun e w' => e = .returned (.bool (hasB s word)) ∧ Below w.heap.size w w' := by
  have HM := Kp.mk (fun x (h : x ∈ splL s) => (splL_mem h).2)
  have hln := splL_len s
  have HD := Kp.mk (show hasB s word = hasL word (splL s) from rfl)
  go_enter Tryz.func38, Tryz.ntmps38
  go_wp2_with fail
  refine (rsplit_any s _ (by omega)).mono ?_
  rintro e w1 ⟨v, rfl, ho, hb1⟩
  have HR := Kp.mk (rds_own ho)
  have HB1 := Kp.mk hb1
  obtain ⟨a, c, rfl⟩ := own_lenH ho
  clear ho hb1
  generalize splL s = L at *
  generalize splB s = b at *
  go_wp2_with fail
  go_loopw [7] (fun i wr => ∃ k : Nat, k ≤ L.length ∧ i = .int .i64 k ∧ hasL word (L.take k) = false ∧ Below w1.heap.size w1 wr) (fun i _ => L.length - (intOf i).toNat)
  case atStart => exact ⟨0, by omega, rfl, rfl, Below.refl _ _⟩
  case round =>
    obtain ⟨k, hk, rfl, hh, hb⟩ := hrel
    have HB := Kp.mk hb
    have HH := Kp.mk hh
    have HBW := Kp.mk (HB1.out.trans (hb.mono HB1.out.size))
    clear hh hb
    by_cases hlt : k < L.length
    · obtain ⟨g, o, rfl, hgl, d0⟩ := rds_cells (HR.out.below HB.out) (by omega)
      have c1 := d0 k hlt
      have m1 := HM.out L[k] (List.getElem_mem hlt)
      have q0 : (0 : Int) ≤ (k : Int) := by omega
      have q1 : (k : Int) < (L.length : Int) := by omega
      have HT := Kp.mk (hasL_take (x := word) hlt)
      have HHit := Kp.mk (hasL_hit (x := word) hlt)
      clear d0
      generalize L[k] = x at *
      have HF := Kp.mk (show ((lowB x).toList == (lowB word).toList) = foldB x word from rfl)
      go_wp2_with fail
      refine (ref_lower_any x _ (by omega)).mono ?_
      rintro e w2 ⟨rfl, hb2⟩
      have HB2 := Kp.mk (HB.out.trans (hb2.mono HB.out.size))
      have HBW2 := Kp.mk (HBW.out.trans (hb2.mono HBW.out.size))
      clear hb2
      go_wp2_with fail
      refine (ref_lower_any word _ (by omega)).mono ?_
      rintro e w3 ⟨rfl, hb3⟩
      have HB3 := Kp.mk (HB2.out.trans (hb3.mono HB2.out.size))
      have HBW3 := Kp.mk (HBW2.out.trans (hb3.mono HBW2.out.size))
      clear hb3
      cases hf : foldB x word
      · have HT2 := Kp.mk (show hasL word (L.take (k + 1)) = false by rw [HT.out, hf, HH.out]; rfl)
        have hq := HF.out.trans hf
        go_wp2_with fail
        go_roundw
        case rel => exact ⟨k + 1, by omega, by go_num, HT2.out, HB3.out⟩
        case measure => simp [intOf]; omega
      · have HT2 := Kp.mk (HHit.out hf)
        have hq := HF.out.trans hf
        go_wp2_with fail
        go_ret
        exact ⟨by rw [HD.out, HT2.out]; rfl, HBW3.out⟩
    · have HK := Kp.mk (show hasL word L = false by have := HH.out; rwa [List.take_of_length_le (by omega)] at this)
      go_wp2_with fail
      go_ret
      exact ⟨by rw [HD.out, HK.out]; rfl, HBW.out⟩
end Go.Proofs.YtgamekfickheaaaGreat
