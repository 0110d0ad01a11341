/- Hosts (layer 11): the program's own ways over runes. -/
import Derived.Test.YtahehpgnemanmaaRun
import Derived.Test.YtahehpgnemanmaaHob
namespace Go.Proofs.Ytahehpgnemanmaa
open Go.RowKit
set_option linter.unusedVariables false
set_option linter.unusedSimpArgs false

theorem hsHex_eq (n : Nat) : hsHex n = (hsDig n || ((decide (97 ≤ n) && decide (n ≤ 102)) || (decide (65 ≤ n) && decide (n ≤ 70)))) := by
  unfold hsHex hsDig digV
  rw [Bool.eq_iff_iff]
  repeat' split
  all_goals simp
  all_goals omega
def hsAlp (n : Nat) : Bool := (decide (97 ≤ n) && decide (n ≤ 122)) || (decide (65 ≤ n) && decide (n ≤ 90))
theorem hsNm_eq (n : Nat) : hsNm n = (hsAlp n || (hsDig n || hsSigns.any (fun m => m == n))) := by
  unfold hsNm hsAlp hsDig
  rw [Bool.eq_iff_iff]
  simp only [Bool.or_eq_true]
  generalize (hsSigns.any fun m => m == n) = b
  constructor
  · rintro (((h | h) | h) | h)
    · exact .inr (.inl h)
    · exact .inl (.inr h)
    · exact .inl (.inl h)
    · exact .inr (.inr h)
  · rintro ((h | h) | (h | h))
    · exact .inl (.inr h)
    · exact .inl (.inl (.inr h))
    · exact .inl (.inl (.inl h))
    · exact .inr h
theorem hsNm_high (n : Nat) (h : 128 ≤ n) : hsNm n = false := by
  rw [hsNm_eq, hsSigns_high n (by omega)]
  unfold hsAlp hsDig
  rw [Bool.eq_false_iff]
  simp
  omega
theorem hsLit_high (n : Nat) (h : 128 ≤ n) : hsLit n = false := by
  unfold hsLit
  rw [hsHex_high n h, Bool.eq_false_iff]
  simp
  omega
theorem hsDig_high (n : Nat) (h : 128 ≤ n) : hsDig n = false := by
  unfold hsDig
  rw [Bool.eq_false_iff]
  simp
  omega
set_option maxHeartbeats 400000 in
theorem hs_digit_any (n : Int) (w : World) (h0 : 0 ≤ n) : Calls Try.prog 35 #[.int .i32 n] w fun e w' => e = .returned (.bool (hsDig n.toNat)) ∧ Below w.heap.size w w' := by
  go_enter Try.func35, Try.ntmps35
  go_wp2
  all_goals go_ret
  all_goals refine ⟨ret_bool ?_, Below.refl _ _⟩
  all_goals go_light
  all_goals (rw [Bool.eq_iff_iff]; simp [hsDig] at *; try omega)
set_option maxHeartbeats 400000 in
theorem hs_letter_any (n : Int) (w : World) (h0 : 0 ≤ n) : Calls Try.prog 68 #[.int .i32 n] w fun e w' => e = .returned (.bool (hsAlp n.toNat)) ∧ w = w' := by
  go_enter Try.func68, Try.ntmps68
  go_wp2
  all_goals go_ret
  all_goals refine ⟨ret_bool ?_, rfl⟩
  all_goals go_light
  all_goals (rw [Bool.eq_iff_iff]; simp [hsAlp] at *; try omega)
set_option maxHeartbeats 400000 in
theorem hs_hex_any (n : Int) (w : World) (h0 : 0 ≤ n) : Calls Try.prog 66 #[.int .i32 n] w fun e w' => e = .returned (.bool (hsHex n.toNat)) ∧ Below w.heap.size w w' := by
  have HX := Kp.mk (hsHex_eq n.toNat)
  go_enter Try.func66, Try.ntmps66
  go_wp2_with fail
  refine (hs_digit_any _ _ h0).mono ?_
  rintro e w1 ⟨rfl, hb⟩
  have HB := Kp.mk hb
  clear hb
  generalize hsDig n.toNat = d at *
  cases d
  all_goals go_wp2_with fail
  all_goals go_ret
  all_goals refine ⟨ret_bool ?_, HB.out⟩
  all_goals go_light
  all_goals (rw [HX.out, Bool.eq_iff_iff]; simp at *; try omega)
set_option maxHeartbeats 400000 in
theorem hs_lit_any (n : Int) (w : World) (h0 : 0 ≤ n) : Calls Try.prog 65 #[.int .i32 n] w fun e w' => e = .returned (.bool (hsLit n.toNat)) ∧ Below w.heap.size w w' := by
  have HX := Kp.mk (show hsLit n.toNat = (hsHex n.toNat || n.toNat == 58 || n.toNat == 46) from rfl)
  go_enter Try.func65, Try.ntmps65
  go_wp2_with fail
  refine (hs_hex_any _ _ h0).mono ?_
  rintro e w1 ⟨rfl, hb⟩
  have HB := Kp.mk hb
  clear hb
  generalize hsHex n.toNat = d at *
  cases d
  all_goals go_wp2_with fail
  all_goals go_ret
  all_goals refine ⟨ret_bool ?_, HB.out⟩
  all_goals go_light
  all_goals (rw [HX.out, Bool.eq_iff_iff]; simp at *; try omega)

/-- A function that keeps nothing of its own, of each rune. -/
theorem callF_hsdig (args : Array Value) (w : World) : (callFunc 35 args).run Try.prog w = .ok (.enter 35 args) w := by kernel_rfl
theorem callF_hslit (args : Array Value) (w : World) : (callFunc 65 args).run Try.prog w = .ok (.enter 65 args) w := by kernel_rfl
set_option maxRecDepth 100000 in
set_option maxHeartbeats 1000000 in
theorem hs_all_any (F : FuncId) (P : Nat → Bool) (hP : ∀ n, 128 ≤ n → P n = false) (hF : ∀ (n : Int) (w : World), 0 ≤ n → Calls Try.prog F #[.int .i32 n] w fun e w' => e = .returned (.bool (P n.toNat)) ∧ Below w.heap.size w w')
    (hG : ∀ (args : Array Value) (w : World), (callFunc F args).run Try.prog w = .ok (.enter F args) w) (s : ByteArray) (w : World) (hs : s.size ≤ maxLen) :
    Calls Try.prog 34 #[.string s, .func (.func F) #[] #[]] w fun e w' => e = .returned (.bool (allB P s)) ∧ Below w.heap.size w w' := by
  unfold maxLen at hs
  have HP := Kp.mk hP
  have HFN := Kp.mk hF
  clear hP hF
  go_enter Try.func34, Try.ntmps34
  go_wp2_with fail
  go_loopw [6] (fun _ wr => ∃ pos : Nat, wr.heap[w.heap.size]? = some (.stringIter s pos) ∧ Below w.heap.size w wr ∧ ∀ j, j < pos → j < s.size → P (bt s j) = true) (fun _ wr => s.size - wr.iterPos w.heap.size)
  case atStart => exact ⟨0, World.iter_heap _ _ _, (Below.refl _ _).alloc (Nat.le_refl _) _, fun j h => by omega⟩
  case round =>
    obtain ⟨pos, hit, hbel, hf⟩ := hrel
    have HF := Kp.mk hf
    have HB := Kp.mk hbel
    have HI := Kp.mk hit
    have hmeas : wr.iterPos w.heap.size = pos := by simp [World.iterPos, hit]
    have HM := Kp.mk hmeas
    have hlt0 : w.heap.size < wr.heap.size := (Array.getElem?_eq_some_iff.1 hit).1
    by_cases hlt : pos < s.size
    · have hnx : ∀ ty, (Instr.next (.pointer (some ⟨w.heap.size, 0, none⟩)) true ty).run Try.prog wr = _ := fun ty => Lib.run_next_any_at wr w.heap.size s pos ty hit hlt
      have hnew : ∀ p w', Below (wr.iterAt w.heap.size s p).heap.size (wr.iterAt w.heap.size s p) w' → w'.heap[w.heap.size]? = some (.stringIter s p) ∧ Below w.heap.size w w' := by
        intro p w' hb
        have hs1 := Lib.iterAt_size wr w.heap.size s p
        refine ⟨by rw [hb.block _ (by rw [hs1]; exact hlt0)]; exact Lib.iterAt_heap wr _ s pos p hit, ?_⟩
        exact (Lib.below_iterAt hbel (Nat.le_refl _) s p).trans (hb.mono (by rw [hs1]; omega))
      have HN := Kp.mk hnew
      clear hf hbel hit hmeas hnew
      have hd2 := decode_le s pos
      by_cases hlow : bt s pos < 128
      · have hdec := dec_low s pos hlt hlow
        rw [hdec] at hnx
        clear hdec hd2
        go_wp2_with fail
        refine (HFN.out _ _ (by omega)).mono ?_
        rintro e w' ⟨rfl, hb⟩
        rw [Int.toNat_natCast]
        obtain ⟨hi', hb'⟩ := HN.out _ _ hb
        have HI2 := Kp.mk hi'
        have HB2 := Kp.mk hb'
        clear hb hi' hb'
        cases ht : P (bt s pos)
        · have HT := Kp.mk ht
          clear ht
          go_wp2_with fail
          go_ret
          exact ⟨ret_bool (allB_false pos hlt HT.out).symm, HB2.out⟩
        · have HT := Kp.mk ht
          clear ht
          go_wp2_with fail
          go_roundw
          case rel =>
            refine ⟨pos + 1, HI2.out, HB2.out, fun j hj hj2 => ?_⟩
            by_cases hjk : j < pos
            · exact HF.out j hjk hj2
            · obtain rfl : j = pos := by omega
              exact HT.out
          case measure =>
            have hi' := HI2.out
            rw [HM.out]
            simp [World.iterPos, hi']
            omega
      · have hhi := dec_high s pos hlt (by omega)
        obtain ⟨hh1, hh2, hh3⟩ := hhi
        clear hh3 hd2
        generalize Utf8.decode s pos = d at *
        obtain ⟨r, wd⟩ := d
        dsimp only at *
        go_wp2_with fail
        refine (HFN.out _ _ (by omega)).mono ?_
        rintro e w' ⟨rfl, hb⟩
        rw [Int.toNat_natCast, HP.out _ hh1]
        obtain ⟨hi', hb'⟩ := HN.out _ _ hb
        have HB2 := Kp.mk hb'
        clear hb hi' hb'
        go_wp2_with fail
        go_ret
        exact ⟨ret_bool (allB_false pos hlt (HP.out _ (by omega))).symm, HB2.out⟩
    · have hnx : ∀ ty, (Instr.next (.pointer (some ⟨w.heap.size, 0, none⟩)) true ty).run Try.prog wr = _ := fun ty => Lib.run_next_end_at wr w.heap.size s pos ty hit hlt
      clear hf hbel hit hmeas
      go_wp2_with fail
      go_ret
      exact ⟨ret_bool (allB_true fun j hj => HF.out j (by omega) hj).symm, HB.out⟩

/-! ### The one that counts the digits behind a % -/
def hsSB : ByteArray := ⟨#[45, 46, 95, 126, 33, 36, 38, 39, 40, 41, 42, 43, 44, 59, 61]⟩
theorem hsSB_eq : (⟨#[45, 46, 95, 126, 33, 36, 38, 39, 40, 41, 42, 43, 44, 59, 61]⟩ : ByteArray) = hsSB := rfl
theorem hsSB_low : ∀ k, k < 15 → bt hsSB k < 128 := by decide +kernel
theorem hsSB_asc : AscS hsSB := fun j hj => hsSB_low j hj
theorem hsSB_any (n : Nat) : (decide ((n : Int) < 128) && hsSB.data.toList.any (fun d => d.toNat == n)) = hsSigns.any (fun m => m == n) := by
  have e : hsSB.data.toList.any (fun d => d.toNat == n) = hsSigns.any (fun m => m == n) := rfl
  rw [e]
  by_cases h : (n : Int) < 128
  · rw [decide_eq_true h, Bool.true_and]
  · rw [decide_eq_false h, Bool.false_and, hsSigns_high n (by omega)]
def hsOk (left n : Nat) : Bool := if 0 < left then hsHex n else (n == 37 || hsNm n)
def hsNew (left n : Nat) : Nat := if 0 < left then left - 1 else if n = 37 then 2 else 0
/-- The cell that it counts in. -/
def HsC (b left : Nat) (w : World) : Prop := w.heap[b]? = some (.cells #[.int .i64 (left : Int)] 3 (0, 0))
def HsPost (b left n : Nat) (w : World) (e : Ending) (w' : World) : Prop := e = .returned (.bool (hsOk left n)) ∧ (hsOk left n = true → HsC b (hsNew left n) w') ∧ Onl b none w w'
theorem HsC.set {b l m : Nat} {w : World} (h : HsC b l w) : HsC b m (w.setCell ⟨b, 0, none⟩ (.int .i64 (m : Int))) := by
  unfold HsC at h ⊢
  exact blk_set h _
theorem HsC.below {b l : Nat} {w w' : World} (h : HsC b l w) (hb : Below w.heap.size w w') : HsC b l w' := (hb.block b (blk_lt h)).trans h
set_option maxRecDepth 100000 in
set_option maxHeartbeats 1000000 in
theorem hs_step_any (b left : Nat) (n : Int) (w : World) (h : HsC b left w) (h0 : 0 ≤ n) (h1 : n ≤ 1114111) (hl : left ≤ 2) :
    Calls Try.prog 67 #[.int .i32 n, .pointer (some ⟨b, 0, none⟩)] w (HsPost b left n.toNat w) := by
  have HC := Kp.mk h
  have c1 := blk_cell (i := 0) h rfl
  have f1 := blk_free (i := 0) h
  clear h
  by_cases hp : 0 < left
  · obtain ⟨m, rfl⟩ : ∃ m, left = m + 1 := ⟨left - 1, by omega⟩
    have e1 : ((m + 1 : Nat) : Int) = (m : Int) + 1 := by omega
    rw [e1] at c1
    have q1 : (0 : Int) < (m : Int) + 1 := by omega
    have HS := Kp.mk (HC.out.set (m := m))
    have HO := Kp.mk ((Onl.refl b none w).setCell 0 (.int .i64 (m : Int)))
    have HE := Kp.mk (show hsOk (m + 1) n.toNat = hsHex n.toNat by unfold hsOk; rw [if_pos (by omega)])
    have HE2 := Kp.mk (show hsNew (m + 1) n.toNat = m by unfold hsNew; rw [if_pos (by omega)]; rfl)
    clear hp e1
    go_enter Try.func67, Try.ntmps67
    go_wp2_with fail
    refine (hs_hex_any _ _ h0).mono ?_
    rintro e w1 ⟨rfl, hb⟩
    have HB := Kp.mk hb
    clear hb
    go_wp2_with fail
    go_ret
    exact ⟨by rw [HE.out]; rfl, fun _ => by rw [HE2.out]; exact HS.out.below HB.out, HO.out.then_below HB.out⟩
  · obtain rfl : left = 0 := by omega
    clear hp
    by_cases h37 : n = 37
    · subst h37
      have HS := Kp.mk (HC.out.set (m := 2))
      have HO := Kp.mk ((Onl.refl b none w).setCell 0 (.int .i64 ((2 : Nat) : Int)))
      go_enter Try.func67, Try.ntmps67
      go_wp2_with fail
      go_ret
      exact ⟨rfl, fun _ => HS.out, HO.out⟩
    · have h37b : (n == 37) = false := beq_eq_false_iff_ne.2 h37
      have HE := Kp.mk (show hsOk 0 n.toNat = (hsAlp n.toNat || (hsDig n.toNat || hsSigns.any (fun m => m == n.toNat))) by
        unfold hsOk
        rw [if_neg (by omega), hsNm_eq, show (n.toNat == 37) = false from beq_eq_false_iff_ne.2 (by omega), Bool.false_or])
      have HE2 := Kp.mk (show hsNew 0 n.toNat = 0 by unfold hsNew; rw [if_neg (by omega), if_neg (by omega)])
      have HN := Kp.mk (hsSB_any n.toNat)
      have hnn : ((n.toNat : Nat) : Int) = n := by omega
      rw [hnn] at HN
      clear hnn h37
      go_enter Try.func67, Try.ntmps67
      go_wp2_with fail
      refine (hs_letter_any _ _ h0).mono ?_
      rintro e w1 ⟨rfl, rfl⟩
      generalize hsAlp n.toNat = x at *
      cases x
      · go_wp2_with fail
        refine (hs_digit_any _ _ h0).mono ?_
        rintro e w2 ⟨rfl, hb⟩
        have HB := Kp.mk hb
        clear hb
        generalize hsDig n.toNat = y at *
        cases y
        · go_wp2_with fail
          rw [hsSB_eq]
          refine (hasRune_any hsSB n _ hsSB_asc (by decide) h0 h1).mono ?_
          rintro e w3 ⟨rfl, hb⟩
          rw [HN.out]
          have HB2 := Kp.mk (HB.out.trans (hb.mono HB.out.size))
          clear hb
          go_wp2_with fail
          go_ret
          exact ⟨by rw [HE.out]; rfl, fun _ => by rw [HE2.out]; exact HC.out.below HB2.out, Onl.of HB2.out⟩
        · go_wp2_with fail
          go_ret
          exact ⟨by rw [HE.out]; rfl, fun _ => by rw [HE2.out]; exact HC.out.below HB.out, Onl.of HB.out⟩
      · go_wp2_with fail
        go_ret
        exact ⟨by rw [HE.out]; rfl, fun _ => by rw [HE2.out]; exact HC.out, Onl.refl _ _ _⟩
end Go.Proofs.Ytahehpgnemanmaa
