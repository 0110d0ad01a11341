/- Layer 1: Trim of the program. -/
import Derived.Test.YtahehpgnemanmaaFold
namespace Go.Proofs.Ytahehpgnemanmaa
open Go.RowKit
set_option linter.unusedVariables false
set_option linter.unusedSimpArgs false

/-- What Trim keeps from round to round: nothing but blanks so far; or first is where the first other octet stands, and end lies within the last row of others, which ends at q. -/
def TrimKeeps (s : ByteArray) (v3 v4 v5 : Value) (pos : Nat) : Prop :=
  (v3 = .int .i64 0 ∧ v4 = .int .i64 0 ∧ v5 = .bool false ∧ ∀ j, j < pos → j < s.size → blankN (bt s j) = true) ∨
  ∃ a e q : Nat, v3 = .int .i64 a ∧ v4 = .int .i64 e ∧ v5 = .bool true ∧ a < e ∧ e ≤ q ∧ q ≤ pos ∧ q ≤ s.size ∧ (∀ j, j < a → blankN (bt s j) = true) ∧ blankN (bt s a) = false ∧
    (∀ j, e ≤ j + 1 → j < q → blankN (bt s j) = false) ∧ ∀ j, q ≤ j → j < pos → j < s.size → blankN (bt s j) = true

theorem TrimKeeps.blank {s : ByteArray} {v3 v4 v5 : Value} {pos : Nat} (h : TrimKeeps s v3 v4 v5 pos) (hb : blankN (bt s pos) = true) : TrimKeeps s v3 v4 v5 (pos + 1) := by
  rcases h with ⟨h3, h4, h5, h⟩ | ⟨a, e, q, h3, h4, h5, g1, g2, g3, g4, g5, g6, g7, g8⟩
  · refine .inl ⟨h3, h4, h5, fun j h1 h2 => ?_⟩
    by_cases hj : j < pos
    · exact h j hj h2
    · obtain rfl : j = pos := by omega
      exact hb
  · refine .inr ⟨a, e, q, h3, h4, h5, g1, g2, by omega, g4, g5, g6, g7, fun j h1 h2 h3 => ?_⟩
    by_cases hj : j < pos
    · exact g8 j h1 hj h3
    · obtain rfl : j = pos := by omega
      exact hb
theorem TrimKeeps.first {s : ByteArray} {v4 v5 : Value} {pos wd : Nat} (hw : 1 ≤ wd) (hsz : pos + wd ≤ s.size) (hn : ∀ j, pos ≤ j → j < pos + wd → blankN (bt s j) = false)
    (h : ∀ j, j < pos → j < s.size → blankN (bt s j) = true) : TrimKeeps s (.int .i64 (pos : Int)) (.int .i64 ((pos : Int) + 1)) (.bool true) (pos + wd) :=
  .inr ⟨pos, pos + 1, pos + wd, rfl, by go_num, rfl, by omega, by omega, Nat.le_refl _, hsz, fun j hj => h j hj (by omega), hn pos (Nat.le_refl _) (by omega), fun j h1 h2 => hn j (by omega) h2, fun j h1 h2 => by omega⟩
theorem TrimKeeps.next {s : ByteArray} {v3 v4 : Value} {a pos wd : Nat} (hw : 1 ≤ wd) (hsz : pos + wd ≤ s.size) (hn : ∀ j, pos ≤ j → j < pos + wd → blankN (bt s j) = false)
    (h3 : v3 = .int .i64 a) (ha : a < pos) (g5 : ∀ j, j < a → blankN (bt s j) = true) (g6 : blankN (bt s a) = false) : TrimKeeps s v3 (.int .i64 ((pos : Int) + 1)) (.bool true) (pos + wd) :=
  .inr ⟨a, pos + 1, pos + wd, h3, by go_num, rfl, by omega, by omega, Nat.le_refl _, hsz, g5, g6, fun j h1 h2 => hn j (by omega) h2, fun j h1 h2 => by omega⟩

set_option maxHeartbeats 1000000 in
theorem oct_trim_any (s : ByteArray) (w : World) (hs : s.size ≤ maxLen) :
    Calls Try.prog 100 #[.string s] w fun e w' => e = .returned (.string (trimB s)) ∧ Below w.heap.size w w' := by
  unfold maxLen at hs
  go_enter Try.func100, Try.ntmps100
  go_wp2
  go_loopw [3, 4, 5, 6, 7] (fun v3 v4 v5 _ _ wr => ∃ pos : Nat, wr.heap[w.heap.size]? = some (.stringIter s pos) ∧ Below w.heap.size w wr ∧ TrimKeeps s v3 v4 v5 pos) (fun _ _ _ _ _ wr => s.size - wr.iterPos w.heap.size)
  case atStart => exact ⟨0, World.iter_heap _ _ _, (Below.refl _ _).alloc (Nat.le_refl _) _, .inl ⟨rfl, rfl, rfl, fun j h => by omega⟩⟩
  case round =>
    obtain ⟨pos, hit, hbel, hkeep⟩ := hrel
    have HB := Lib.hid hbel
    have HI := Lib.hid hit
    have HK := Lib.hid hkeep
    have hmeas : wr.iterPos w.heap.size = pos := by simp [World.iterPos, hit]
    have HM := Lib.hid hmeas
    have hlt0 : w.heap.size < wr.heap.size := (Array.getElem?_eq_some_iff.1 hit).1
    by_cases hlt : pos < s.size
    · have hnx : ∀ ty, (Instr.next (.pointer (some ⟨w.heap.size, 0, none⟩)) true ty).run Try.prog wr = _ := fun ty => Lib.run_next_any_at wr w.heap.size s pos ty hit hlt
      clear hmeas hbel hit hkeep
      by_cases hbl : blankN (bt s pos) = true
      · have hlow : bt s pos < 128 := by simp [blankN] at hbl; omega
        have hdec := dec_low s pos hlt hlow
        rw [hdec] at hnx
        have hih := Lib.iterAt_heap wr w.heap.size s pos (pos + 1) HI.out
        have hib := Lib.below_iterAt HB.out (Nat.le_refl _) s (pos + 1)
        generalize hW : wr.iterAt w.heap.size s (pos + 1) = W at *
        have HH := Lib.hid hih
        have HIB := Lib.hid hib
        have HK2 := Lib.hid (HK.out.blank hbl)
        clear hdec hih hib hW
        have hb2 : ((bt s pos : Int) == 32) = true ∨ ((bt s pos : Int) == 32) = false ∧ ((bt s pos : Int) == 9) = true := by
          simp [blankN] at hbl; simp; omega
        clear hbl
        rcases hb2 with e1 | ⟨e1, e2⟩
        all_goals
          go_wp2
          go_roundw
          case rel => exact ⟨pos + 1, HH.out, HIB.out, HK2.out⟩
          case measure =>
            rw [HM.out]
            simp only [World.iterPos, HH.out]
            omega
      · have hnot : ((Utf8.decode s pos).1 == 32) = false ∧ ((Utf8.decode s pos).1 == 9) = false := by
          by_cases hlow : bt s pos < 128
          · rw [dec_low s pos hlt hlow]; simp [blankN] at hbl; simp; omega
          · have := (dec_high s pos hlt (by omega)).1; simp; omega
        have hpos : 1 ≤ (Utf8.decode s pos).2 ∧ pos + (Utf8.decode s pos).2 ≤ s.size ∧ ∀ j, pos ≤ j → j < pos + (Utf8.decode s pos).2 → blankN (bt s j) = false := by
          by_cases hlow : bt s pos < 128
          · rw [dec_low s pos hlt hlow]
            refine ⟨Nat.le_refl _, hlt, fun j h1 h2 => ?_⟩
            obtain rfl : j = pos := by simp only at h2; omega
            simpa using hbl
          · obtain ⟨_, h2, h3⟩ := dec_high s pos hlt (by omega)
            refine ⟨h2, ?_, fun j h4 h5 => ?_⟩
            · have := (h3 (pos + (Utf8.decode s pos).2 - 1) (by omega) (by omega)).1; omega
            · have := (h3 j h4 h5).2; simp [blankN]; omega
        obtain ⟨hp1, hp2, hp3⟩ := hpos
        have HP := Lib.hid hp3
        have hd2 := decode_le s pos
        obtain ⟨n1, n2⟩ := hnot
        clear hp3 hbl
        generalize Utf8.decode s pos = d at *
        obtain ⟨r, wd⟩ := d
        dsimp only at *
        have e1 : ((r : Int) == 32) = false := by simp at n1 ⊢; omega
        have e2 : ((r : Int) == 9) = false := by simp at n2 ⊢; omega
        have hih := Lib.iterAt_heap wr w.heap.size s pos (pos + wd) HI.out
        have hib := Lib.below_iterAt HB.out (Nat.le_refl _) s (pos + wd)
        generalize hW : wr.iterAt w.heap.size s (pos + wd) = W at *
        have HH := Lib.hid hih
        have HIB := Lib.hid hib
        clear hih hib hW n1 n2
        rcases HK.out with ⟨rfl, rfl, rfl, hno⟩ | ⟨a, e, q, rfl, rfl, rfl, g1, g2, g3, g4, g5, g6, g7, g8⟩
        · have HN := Lib.hid hno
          clear hno
          go_wp2
          go_roundw
          case rel => exact ⟨pos + wd, HH.out, HIB.out, TrimKeeps.first (v4 := .nilIface) (v5 := .nilIface) hp1 hp2 HP.out HN.out⟩
          case measure =>
            rw [HM.out]
            simp only [World.iterPos, HH.out]
            omega
        · have H5 := Lib.hid g5
          have H6 := Lib.hid g6
          clear g5 g6 g7 g8
          go_wp2
          go_roundw
          case rel => exact ⟨pos + wd, HH.out, HIB.out, TrimKeeps.next (v4 := .nilIface) hp1 hp2 HP.out rfl (by omega) H5.out H6.out⟩
          case measure =>
            rw [HM.out]
            simp only [World.iterPos, HH.out]
            omega
    · have hnx : ∀ ty, (Instr.next (.pointer (some ⟨w.heap.size, 0, none⟩)) true ty).run Try.prog wr = _ := fun ty => Lib.run_next_end_at wr w.heap.size s pos ty hit hlt
      clear hmeas hbel hit hkeep
      rcases HK.out with ⟨rfl, rfl, rfl, hno⟩ | ⟨a, e, q, rfl, rfl, rfl, g1, g2, g3, g4, g5, g6, g7, g8⟩
      · have HE := Lib.hid (trimB_blank s fun j hj => hno j (by omega) hj)
        clear hno
        go_wp2
        go_ret
        exact ⟨ret_str HE.out, HB.out⟩
      · have hfin := trimB_extract s a q (by omega) g4 g5 (fun j h1 h2 => g8 j h1 (by omega) h2) g6 (g7 (q - 1) (by omega) (by omega))
        have HE := Lib.hid hfin
        have H7 := Lib.hid g7
        have H8 := Lib.hid g8
        clear hfin g5 g6 g7 g8
        obtain ⟨wo, rfl⟩ : ∃ wo : World, wo = wr := ⟨_, rfl⟩
        go_wp2
        go_loop [4] (fun v => ∃ k : Nat, e ≤ k ∧ k ≤ q ∧ v = .int .i64 k) (fun v => s.size - (intOf v).toNat)
        case atStart => exact ⟨e, Nat.le_refl _, g2, rfl⟩
        case round =>
          obtain ⟨k, hk1, hk2, rfl⟩ := hrel
          by_cases hkq : k < q
          · have hb := H7.out k (by omega) hkq
            have hbt := bt_at s k (by omega)
            have hks : k < s.size := by omega
            have e1 : ((s[k].toNat : Int) != 32) = true := by rw [hbt]; simp [blankN] at hb; simp; omega
            have e2 : ((s[k].toNat : Int) != 9) = true := by rw [hbt]; simp [blankN] at hb; simp; omega
            clear hb hbt
            go_wp2
            go_round
            case rel => exact ⟨k + 1, by omega, by omega, by go_num⟩
            case measure => simp [intOf]; omega
          · obtain rfl : k = q := by omega
            by_cases hks : k < s.size
            · have hb := H8.out k (Nat.le_refl _) (by omega) hks
              have hbt := bt_at s k hks
              have e1 : ((s[k].toNat : Int) != 32) = false ∨ ((s[k].toNat : Int) != 32) = true ∧ ((s[k].toNat : Int) != 9) = false := by rw [hbt]; simp [blankN] at hb; simp; omega
              clear hb hbt
              rcases e1 with e1 | ⟨e1, e2⟩
              all_goals
                go_wp2
                go_ret
                exact ⟨ret_str HE.out, HB.out⟩
            · go_wp2
              go_ret
              exact ⟨ret_str HE.out, HB.out⟩
end Go.Proofs.Ytahehpgnemanmaa
