/- Hosts (layer 11): the program's own ways over runes. · Hosts (layer 11): the program's own functions. · Hosts (layer 11): Parse, Text and Key of the program. -/
import Derived.Test.YtggnnaafkekihaaDoorRun
import Derived.Test.YtggnnaafkekihaaDoorHob
namespace Go.Proofs.YtggnnaafkekihaaDoor
open Go.RowKit
set_option linter.unusedVariables false
set_option linter.unusedSimpArgs false

theorem hsHex_eq (n : Nat) : hsHex n = (hsDig n || ((decide (97 ≤ n) && decide (n ≤ 102)) || (decide (65 ≤ n) && decide (n ≤ 70)))) := by
  unfold hsHex hsDig digV
  rw [Bool.eq_iff_iff]
  repeat' split
  all_goals simp
  all_goals omega
def hsAlp (n : Nat) : Bool := (decide (97 ≤ n) && decide (n ≤ 122)) || (decide (65 ≤ n) && decide (n ≤ 90))
theorem hsNm_eq (n : Nat) : hsNm n = (hsAlp n || (hsDig n || hsSigns.any (fun m => m == n))) := by
  unfold hsNm hsAlp hsDig
  rw [Bool.eq_iff_iff]
  simp only [Bool.or_eq_true]
  generalize (hsSigns.any fun m => m == n) = b
  constructor
  · rintro (((h | h) | h) | h)
    · exact .inr (.inl h)
    · exact .inl (.inr h)
    · exact .inl (.inl h)
    · exact .inr (.inr h)
  · rintro ((h | h) | (h | h))
    · exact .inl (.inr h)
    · exact .inl (.inl (.inr h))
    · exact .inl (.inl (.inl h))
    · exact .inr h
theorem hsNm_high (n : Nat) (h : 128 ≤ n) : hsNm n = false := by
  rw [hsNm_eq, hsSigns_high n (by omega)]
  unfold hsAlp hsDig
  rw [Bool.eq_false_iff]
  simp
  omega
theorem hsLit_high (n : Nat) (h : 128 ≤ n) : hsLit n = false := by
  unfold hsLit
  rw [hsHex_high n h, Bool.eq_false_iff]
  simp
  omega
theorem hsDig_high (n : Nat) (h : 128 ≤ n) : hsDig n = false := by
  unfold hsDig
  rw [Bool.eq_false_iff]
  simp
  omega
set_option maxHeartbeats 400000 in
theorem hs_digit_any (n : Int) (w : World) (h0 : 0 ≤ n) : Calls Tryd.prog 62 #[.int .i32 n] w fun e w' => e = .returned (.bool (hsDig n.toNat)) ∧ Below w.heap.size w w' := by
  go_enter Tryd.func62, Tryd.ntmps62
  go_wp2
  all_goals go_ret
  all_goals refine ⟨ret_bool ?_, Below.refl _ _⟩
  all_goals go_light
  all_goals (rw [Bool.eq_iff_iff]; simp [hsDig] at *; try omega)
set_option maxHeartbeats 400000 in
theorem hs_letter_any (n : Int) (w : World) (h0 : 0 ≤ n) : Calls Tryd.prog 77 #[.int .i32 n] w fun e w' => e = .returned (.bool (hsAlp n.toNat)) ∧ w = w' := by
  go_enter Tryd.func77, Tryd.ntmps77
  go_wp2
  all_goals go_ret
  all_goals refine ⟨ret_bool ?_, rfl⟩
  all_goals go_light
  all_goals (rw [Bool.eq_iff_iff]; simp [hsAlp] at *; try omega)
set_option maxHeartbeats 400000 in
theorem hs_hex_any (n : Int) (w : World) (h0 : 0 ≤ n) : Calls Tryd.prog 75 #[.int .i32 n] w fun e w' => e = .returned (.bool (hsHex n.toNat)) ∧ Below w.heap.size w w' := by
  have HX := Kp.mk (hsHex_eq n.toNat)
  go_enter Tryd.func75, Tryd.ntmps75
  go_wp2_with fail
  refine (hs_digit_any _ _ h0).mono ?_
  rintro e w1 ⟨rfl, hb⟩
  have HB := Kp.mk hb
  clear hb
  generalize hsDig n.toNat = d at *
  cases d
  all_goals go_wp2_with fail
  all_goals go_ret
  all_goals refine ⟨ret_bool ?_, HB.out⟩
  all_goals go_light
  all_goals (rw [HX.out, Bool.eq_iff_iff]; simp at *; try omega)
set_option maxHeartbeats 400000 in
theorem hs_lit_any (n : Int) (w : World) (h0 : 0 ≤ n) : Calls Tryd.prog 74 #[.int .i32 n] w fun e w' => e = .returned (.bool (hsLit n.toNat)) ∧ Below w.heap.size w w' := by
  have HX := Kp.mk (show hsLit n.toNat = (hsHex n.toNat || n.toNat == 58 || n.toNat == 46) from rfl)
  go_enter Tryd.func74, Tryd.ntmps74
  go_wp2_with fail
  refine (hs_hex_any _ _ h0).mono ?_
  rintro e w1 ⟨rfl, hb⟩
  have HB := Kp.mk hb
  clear hb
  generalize hsHex n.toNat = d at *
  cases d
  all_goals go_wp2_with fail
  all_goals go_ret
  all_goals refine ⟨ret_bool ?_, HB.out⟩
  all_goals go_light
  all_goals (rw [HX.out, Bool.eq_iff_iff]; simp at *; try omega)

/-- A function that keeps nothing of its own, of each rune. -/
theorem callF_hsdig (args : Array Value) (w : World) : (callFunc 62 args).run Tryd.prog w = .ok (.enter 62 args) w := by kernel_rfl
theorem callF_hslit (args : Array Value) (w : World) : (callFunc 74 args).run Tryd.prog w = .ok (.enter 74 args) w := by kernel_rfl
set_option maxRecDepth 100000 in
set_option maxHeartbeats 1000000 in
theorem hs_all_any (F : FuncId) (P : Nat → Bool) (hP : ∀ n, 128 ≤ n → P n = false) (hF : ∀ (n : Int) (w : World), 0 ≤ n → Calls Tryd.prog F #[.int .i32 n] w fun e w' => e = .returned (.bool (P n.toNat)) ∧ Below w.heap.size w w')
    (hG : ∀ (args : Array Value) (w : World), (callFunc F args).run Tryd.prog w = .ok (.enter F args) w) (s : ByteArray) (w : World) (hs : s.size ≤ maxLen) :
    Calls Tryd.prog 61 #[.string s, .func (.func F) #[] #[]] w fun e w' => e = .returned (.bool (allB P s)) ∧ Below w.heap.size w w' := by
  unfold maxLen at hs
  have HP := Kp.mk hP
  have HFN := Kp.mk hF
  clear hP hF
  go_enter Tryd.func61, Tryd.ntmps61
  go_wp2_with fail
  go_loopw [6] (fun _ wr => ∃ pos : Nat, wr.heap[w.heap.size]? = some (.stringIter s pos) ∧ Below w.heap.size w wr ∧ ∀ j, j < pos → j < s.size → P (bt s j) = true) (fun _ wr => s.size - wr.iterPos w.heap.size)
  case atStart => exact ⟨0, World.iter_heap _ _ _, (Below.refl _ _).alloc (Nat.le_refl _) _, fun j h => by omega⟩
  case round =>
    obtain ⟨pos, hit, hbel, hf⟩ := hrel
    have HF := Kp.mk hf
    have HB := Kp.mk hbel
    have HI := Kp.mk hit
    have hmeas : wr.iterPos w.heap.size = pos := by simp [World.iterPos, hit]
    have HM := Kp.mk hmeas
    have hlt0 : w.heap.size < wr.heap.size := (Array.getElem?_eq_some_iff.1 hit).1
    by_cases hlt : pos < s.size
    · have hnx : ∀ ty, (Instr.next (.pointer (some ⟨w.heap.size, 0, none⟩)) true ty).run Tryd.prog wr = _ := fun ty => Lib.run_next_any_at wr w.heap.size s pos ty hit hlt
      have hnew : ∀ p w', Below (wr.iterAt w.heap.size s p).heap.size (wr.iterAt w.heap.size s p) w' → w'.heap[w.heap.size]? = some (.stringIter s p) ∧ Below w.heap.size w w' := by
        intro p w' hb
        have hs1 := Lib.iterAt_size wr w.heap.size s p
        refine ⟨by rw [hb.block _ (by rw [hs1]; exact hlt0)]; exact Lib.iterAt_heap wr _ s pos p hit, ?_⟩
        exact (Lib.below_iterAt hbel (Nat.le_refl _) s p).trans (hb.mono (by rw [hs1]; omega))
      have HN := Kp.mk hnew
      clear hf hbel hit hmeas hnew
      have hd2 := decode_le s pos
      by_cases hlow : bt s pos < 128
      · have hdec := dec_low s pos hlt hlow
        rw [hdec] at hnx
        clear hdec hd2
        go_wp2_with fail
        refine (HFN.out _ _ (by omega)).mono ?_
        rintro e w' ⟨rfl, hb⟩
        rw [Int.toNat_natCast]
        obtain ⟨hi', hb'⟩ := HN.out _ _ hb
        have HI2 := Kp.mk hi'
        have HB2 := Kp.mk hb'
        clear hb hi' hb'
        cases ht : P (bt s pos)
        · have HT := Kp.mk ht
          clear ht
          go_wp2_with fail
          go_ret
          exact ⟨ret_bool (allB_false pos hlt HT.out).symm, HB2.out⟩
        · have HT := Kp.mk ht
          clear ht
          go_wp2_with fail
          go_roundw
          case rel =>
            refine ⟨pos + 1, HI2.out, HB2.out, fun j hj hj2 => ?_⟩
            by_cases hjk : j < pos
            · exact HF.out j hjk hj2
            · obtain rfl : j = pos := by omega
              exact HT.out
          case measure =>
            have hi' := HI2.out
            rw [HM.out]
            simp [World.iterPos, hi']
            omega
      · have hhi := dec_high s pos hlt (by omega)
        obtain ⟨hh1, hh2, hh3⟩ := hhi
        clear hh3 hd2
        generalize Utf8.decode s pos = d at *
        obtain ⟨r, wd⟩ := d
        dsimp only at *
        go_wp2_with fail
        refine (HFN.out _ _ (by omega)).mono ?_
        rintro e w' ⟨rfl, hb⟩
        rw [Int.toNat_natCast, HP.out _ hh1]
        obtain ⟨hi', hb'⟩ := HN.out _ _ hb
        have HB2 := Kp.mk hb'
        clear hb hi' hb'
        go_wp2_with fail
        go_ret
        exact ⟨ret_bool (allB_false pos hlt (HP.out _ (by omega))).symm, HB2.out⟩
    · have hnx : ∀ ty, (Instr.next (.pointer (some ⟨w.heap.size, 0, none⟩)) true ty).run Tryd.prog wr = _ := fun ty => Lib.run_next_end_at wr w.heap.size s pos ty hit hlt
      clear hf hbel hit hmeas
      go_wp2_with fail
      go_ret
      exact ⟨ret_bool (allB_true fun j hj => HF.out j (by omega) hj).symm, HB.out⟩

/-! ### The one that counts the digits behind a % -/
def hsSB : ByteArray := ⟨#[45, 46, 95, 126, 33, 36, 38, 39, 40, 41, 42, 43, 44, 59, 61]⟩
theorem hsSB_eq : (⟨#[45, 46, 95, 126, 33, 36, 38, 39, 40, 41, 42, 43, 44, 59, 61]⟩ : ByteArray) = hsSB := rfl
theorem hsSB_low : ∀ k, k < 15 → bt hsSB k < 128 := by decide +kernel
theorem hsSB_asc : AscS hsSB := fun j hj => hsSB_low j hj
theorem hsSB_any (n : Nat) : (decide ((n : Int) < 128) && hsSB.data.toList.any (fun d => d.toNat == n)) = hsSigns.any (fun m => m == n) := by
  have e : hsSB.data.toList.any (fun d => d.toNat == n) = hsSigns.any (fun m => m == n) := rfl
  rw [e]
  by_cases h : (n : Int) < 128
  · rw [decide_eq_true h, Bool.true_and]
  · rw [decide_eq_false h, Bool.false_and, hsSigns_high n (by omega)]
def hsOk (left n : Nat) : Bool := if 0 < left then hsHex n else (n == 37 || hsNm n)
def hsNew (left n : Nat) : Nat := if 0 < left then left - 1 else if n = 37 then 2 else 0
/-- The cell that it counts in. -/
def HsC (b left : Nat) (w : World) : Prop := w.heap[b]? = some (.cells #[.int .i64 (left : Int)] 3 (0, 0))
def HsPost (b left n : Nat) (w : World) (e : Ending) (w' : World) : Prop := e = .returned (.bool (hsOk left n)) ∧ (hsOk left n = true → HsC b (hsNew left n) w') ∧ Onl b none w w'
theorem HsC.set {b l m : Nat} {w : World} (h : HsC b l w) : HsC b m (w.setCell ⟨b, 0, none⟩ (.int .i64 (m : Int))) := by
  unfold HsC at h ⊢
  exact blk_set h _
theorem HsC.below {b l : Nat} {w w' : World} (h : HsC b l w) (hb : Below w.heap.size w w') : HsC b l w' := (hb.block b (blk_lt h)).trans h
set_option maxRecDepth 100000 in
set_option maxHeartbeats 1000000 in
theorem hs_step_any (b left : Nat) (n : Int) (w : World) (h : HsC b left w) (h0 : 0 ≤ n) (h1 : n ≤ 1114111) (hl : left ≤ 2) :
    Calls Tryd.prog 76 #[.int .i32 n, .pointer (some ⟨b, 0, none⟩)] w (HsPost b left n.toNat w) := by
  have HC := Kp.mk h
  have c1 := blk_cell (i := 0) h rfl
  have f1 := blk_free (i := 0) h
  clear h
  by_cases hp : 0 < left
  · obtain ⟨m, rfl⟩ : ∃ m, left = m + 1 := ⟨left - 1, by omega⟩
    have e1 : ((m + 1 : Nat) : Int) = (m : Int) + 1 := by omega
    rw [e1] at c1
    have q1 : (0 : Int) < (m : Int) + 1 := by omega
    have HS := Kp.mk (HC.out.set (m := m))
    have HO := Kp.mk ((Onl.refl b none w).setCell 0 (.int .i64 (m : Int)))
    have HE := Kp.mk (show hsOk (m + 1) n.toNat = hsHex n.toNat by unfold hsOk; rw [if_pos (by omega)])
    have HE2 := Kp.mk (show hsNew (m + 1) n.toNat = m by unfold hsNew; rw [if_pos (by omega)]; rfl)
    clear hp e1
    go_enter Tryd.func76, Tryd.ntmps76
    go_wp2_with fail
    refine (hs_hex_any _ _ h0).mono ?_
    rintro e w1 ⟨rfl, hb⟩
    have HB := Kp.mk hb
    clear hb
    go_wp2_with fail
    go_ret
    exact ⟨by rw [HE.out]; rfl, fun _ => by rw [HE2.out]; exact HS.out.below HB.out, HO.out.then_below HB.out⟩
  · obtain rfl : left = 0 := by omega
    clear hp
    by_cases h37 : n = 37
    · subst h37
      have HS := Kp.mk (HC.out.set (m := 2))
      have HO := Kp.mk ((Onl.refl b none w).setCell 0 (.int .i64 ((2 : Nat) : Int)))
      go_enter Tryd.func76, Tryd.ntmps76
      go_wp2_with fail
      go_ret
      exact ⟨rfl, fun _ => HS.out, HO.out⟩
    · have h37b : (n == 37) = false := beq_eq_false_iff_ne.2 h37
      have HE := Kp.mk (show hsOk 0 n.toNat = (hsAlp n.toNat || (hsDig n.toNat || hsSigns.any (fun m => m == n.toNat))) by
        unfold hsOk
        rw [if_neg (by omega), hsNm_eq, show (n.toNat == 37) = false from beq_eq_false_iff_ne.2 (by omega), Bool.false_or])
      have HE2 := Kp.mk (show hsNew 0 n.toNat = 0 by unfold hsNew; rw [if_neg (by omega), if_neg (by omega)])
      have HN := Kp.mk (hsSB_any n.toNat)
      have hnn : ((n.toNat : Nat) : Int) = n := by omega
      rw [hnn] at HN
      clear hnn h37
      go_enter Tryd.func76, Tryd.ntmps76
      go_wp2_with fail
      refine (hs_letter_any _ _ h0).mono ?_
      rintro e w1 ⟨rfl, rfl⟩
      generalize hsAlp n.toNat = x at *
      cases x
      · go_wp2_with fail
        refine (hs_digit_any _ _ h0).mono ?_
        rintro e w2 ⟨rfl, hb⟩
        have HB := Kp.mk hb
        clear hb
        generalize hsDig n.toNat = y at *
        cases y
        · go_wp2_with fail
          rw [hsSB_eq]
          refine (hasRune_any hsSB n _ hsSB_asc (by decide) h0 h1).mono ?_
          rintro e w3 ⟨rfl, hb⟩
          rw [HN.out]
          have HB2 := Kp.mk (HB.out.trans (hb.mono HB.out.size))
          clear hb
          go_wp2_with fail
          go_ret
          exact ⟨by rw [HE.out]; rfl, fun _ => by rw [HE2.out]; exact HC.out.below HB2.out, Onl.of HB2.out⟩
        · go_wp2_with fail
          go_ret
          exact ⟨by rw [HE.out]; rfl, fun _ => by rw [HE2.out]; exact HC.out.below HB.out, Onl.of HB.out⟩
      · go_wp2_with fail
        go_ret
        exact ⟨by rw [HE.out]; rfl, fun _ => by rw [HE2.out]; exact HC.out, Onl.refl _ _ _⟩
end Go.Proofs.YtggnnaafkekihaaDoor
namespace Go.Proofs.YtggnnaafkekihaaDoor
open Go.RowKit
set_option linter.unusedVariables false
set_option linter.unusedSimpArgs false

theorem hsStep_ok (left : Nat) (c : UInt8) : hsStep (some left) c = if hsOk left c.toNat = true then some (hsNew left c.toNat) else none := by
  unfold hsStep hsOk hsNew
  by_cases h : 0 < left
  · simp only [h, if_true]
  · simp only [h, if_false]
    by_cases h37 : c.toNat = 37
    · simp [h37]
    · simp [h37]
theorem hsOk_high (left n : Nat) (h : 128 ≤ n) : hsOk left n = false := by
  unfold hsOk
  split
  · exact hsHex_high n h
  · rw [hsNm_high n h, show (n == 37) = false from beq_eq_false_iff_ne.2 (by omega)]; rfl
theorem hsNew_le {left n : Nat} (h : left ≤ 2) : hsNew left n ≤ 2 := by
  unfold hsNew
  split
  · omega
  · split <;> omega
/-- Where the run over s has come to. -/
structure HsAt (b it pos : Nat) (s : ByteArray) (w wr : World) : Prop where
  it : wr.heap[it]? = some (.stringIter s pos)
  le : pos ≤ s.size
  st : ∃ left, hsRun (s.data.toList.take pos) = some left ∧ left ≤ 2 ∧ HsC b left wr
  onl : Onl b none w wr
theorem hsAt_next {b pos p left : Nat} {s : ByteArray} {w wr w' : World} (h : HsAt b w.heap.size pos s w wr) (hb : b < w.heap.size) (hc : HsC b left wr)
    : HsC b left (wr.iterAt w.heap.size s p) ∧ ((wr.iterAt w.heap.size s p).heap[w.heap.size]? = some (.stringIter s p)) ∧ Onl b none w (wr.iterAt w.heap.size s p) := by
  refine ⟨(Lib.iterAt_other wr _ b s p (by omega)).trans hc, Lib.iterAt_heap wr _ s pos p h.it, ⟨h.onl.os, h.onl.tape, h.onl.output, by rw [Lib.iterAt_size]; exact h.onl.size, fun k hk h1 h2 => (Lib.iterAt_other wr _ k s p (by omega)).trans (h.onl.block k hk h1 h2)⟩⟩
def HsAllPost (b : Nat) (s : ByteArray) (w : World) (e : Ending) (w' : World) : Prop := e = .returned (.bool (hsRun s.data.toList).isSome) ∧ (∀ l, hsRun s.data.toList = some l → HsC b l w') ∧ Onl b none w w'
theorem hsAll_false {b pos left : Nat} {s : ByteArray} {w w' : World} (hl : pos < s.size) (h : hsRun (s.data.toList.take pos) = some left) (hk : hsOk left (bt s pos) = false) (ho : Onl b none w w') :
    HsAllPost b s w (.returned (.bool false)) w' := by
  have h1 : hsRun (s.data.toList.take (pos + 1)) = none := by
    rw [hsRun_take s pos hl, h, hsStep_ok, bt_at s pos hl, hk]; rfl
  have h2 := hsRun_mono (m := s.size) h1 (by omega)
  rw [List.take_of_length_le (by rw [← ba_size]; omega)] at h2
  exact ⟨by rw [h2]; rfl, (fun l hl => by rw [h2] at hl; cases hl), ho⟩
set_option maxRecDepth 100000 in
set_option maxHeartbeats 2000000 in
theorem hs_all_st (b : Nat) (s : ByteArray) (w : World) (h : HsC b 0 w) (hs : s.size ≤ maxLen) :
    Calls Tryd.prog 61 #[.string s, .func (.func 76) #[] #[.pointer (some ⟨b, 0, none⟩)]] w (HsAllPost b s w) := by
  unfold maxLen at hs
  have HC := Kp.mk h
  have hbl := blk_lt h
  clear h
  go_enter Tryd.func61, Tryd.ntmps61
  go_wp2_with fail
  go_loopw [6] (fun _ wr => ∃ pos : Nat, HsAt b w.heap.size pos s w wr) (fun _ wr => s.size - wr.iterPos w.heap.size)
  case atStart => exact ⟨0, World.iter_heap _ _ _, by omega, ⟨0, rfl, by omega, (blk_alloc HC.out)⟩, (Onl.refl _ _ _).alloc _⟩
  case round =>
    obtain ⟨pos, hat⟩ := hrel
    have HA := Kp.mk hat
    have hit := hat.it
    have hle := hat.le
    obtain ⟨left, hr, hl2, hcell⟩ := hat.st
    have HR := Kp.mk hr
    have HCE := Kp.mk hcell
    have hmeas : wr.iterPos w.heap.size = pos := by simp [World.iterPos, hit]
    have HM := Kp.mk hmeas
    have hlt0 : w.heap.size < wr.heap.size := (Array.getElem?_eq_some_iff.1 hit).1
    clear hat hr hcell
    by_cases hlt : pos < s.size
    · have hnx : ∀ ty, (Instr.next (.pointer (some ⟨w.heap.size, 0, none⟩)) true ty).run Tryd.prog wr = _ := fun ty => Lib.run_next_any_at wr w.heap.size s pos ty hit hlt
      clear hit hmeas
      have hd2 := decode_le s pos
      by_cases hlow : bt s pos < 128
      · have hdec := dec_low s pos hlt hlow
        rw [hdec] at hnx
        obtain ⟨g1, g2, g3⟩ := hsAt_next (p := pos + 1) (w' := wr) HA.out hbl HCE.out
        have G1 := Kp.mk g1
        have G2 := Kp.mk g2
        have G3 := Kp.mk g3
        clear hdec hd2 g1 g2 g3
        go_wp2_with fail
        refine (hs_step_any b left _ _ G1.out (by omega) (by omega) hl2).mono ?_
        rintro e w' ⟨rfl, hn, ho⟩
        rw [Int.toNat_natCast] at hn ⊢
        have HO := Kp.mk (G3.out.trans (Nxt.refl _ _) ho)
        have HN := Kp.mk hn
        have HI := Kp.mk (ho.heap G2.out (by omega) (by simp))
        clear hn ho
        cases ht : hsOk left (bt s pos)
        · have HT := Kp.mk ht
          clear ht
          go_wp2_with fail
          go_ret
          exact hsAll_false hlt HR.out HT.out HO.out
        · have HC2 := Kp.mk (HN.out ht)
          have HR2 := Kp.mk (show hsRun (s.data.toList.take (pos + 1)) = some (hsNew left (bt s pos)) by rw [hsRun_take s pos hlt, HR.out, hsStep_ok, bt_at s pos hlt, ht]; rfl)
          clear ht
          go_wp2_with fail
          go_roundw
          case rel => exact ⟨pos + 1, HI.out, by omega, ⟨_, HR2.out, hsNew_le hl2, HC2.out⟩, HO.out⟩
          case measure =>
            have hi' := HI.out
            rw [HM.out]
            simp [World.iterPos, hi']
            omega
      · have hhi := dec_high s pos hlt (by omega)
        obtain ⟨hh1, hh2, hh3⟩ := hhi
        have hmax : (Utf8.decode s pos).1 ≤ 1114111 := Lib.rune_le s pos
        clear hh3 hd2
        generalize Utf8.decode s pos = d at *
        obtain ⟨r, wd⟩ := d
        dsimp only at *
        obtain ⟨g1, g2, g3⟩ := hsAt_next (p := pos + wd) (w' := wr) HA.out hbl HCE.out
        have G1 := Kp.mk g1
        have G3 := Kp.mk g3
        clear g1 g2 g3
        go_wp2_with fail
        refine (hs_step_any b left _ _ G1.out (by omega) (by omega) hl2).mono ?_
        rintro e w' ⟨rfl, hn, ho⟩
        rw [Int.toNat_natCast, hsOk_high _ _ hh1]
        have HO := Kp.mk (G3.out.trans (Nxt.refl _ _) ho)
        clear hn ho
        go_wp2_with fail
        go_ret
        exact hsAll_false hlt HR.out (hsOk_high _ _ (by omega)) HO.out
    · have hnx : ∀ ty, (Instr.next (.pointer (some ⟨w.heap.size, 0, none⟩)) true ty).run Tryd.prog wr = _ := fun ty => Lib.run_next_end_at wr w.heap.size s pos ty hit hlt
      have HR2 := Kp.mk (show hsRun s.data.toList = some left by have := HR.out; rwa [List.take_of_length_le (by rw [← ba_size]; omega)] at this)
      clear hit hmeas
      go_wp2_with fail
      go_ret
      exact ⟨by rw [HR2.out]; rfl, fun l hl => by rw [HR2.out] at hl; cases hl; exact HCE.out, HA.out.onl⟩

theorem pre91 (s : ByteArray) : Lib.hasPrefix s.data.toList (⟨#[91]⟩ : ByteArray).data.toList = decide (0 < s.size ∧ bt s 0 = 91) := by
  rw [ba_size]
  cases h : s.data.toList with
  | nil => simp [Lib.hasPrefix]
  | cons c r =>
    have e : Lib.hasPrefix (c :: r) (⟨#[91]⟩ : ByteArray).data.toList = ((91 : UInt8) == c) := by simp [Lib.hasPrefix, List.isPrefixOf]
    rw [e, bt_cons h, Bool.eq_iff_iff, beq_iff_eq, decide_eq_true_eq]
    constructor
    · rintro rfl; exact ⟨by simp, rfl⟩
    · rintro ⟨_, h⟩; exact (UInt8.toNat_inj.1 (show c.toNat = (91 : UInt8).toNat from h)).symm
theorem suf93 (s : ByteArray) : Lib.hasSuffix s.data.toList (⟨#[93]⟩ : ByteArray).data.toList = decide (0 < s.size ∧ bt s (s.size - 1) = 93) := by
  rcases List.eq_nil_or_concat s.data.toList with h | ⟨r, c, h⟩
  · have : s.size = 0 := by rw [ba_size, h]; rfl
    rw [h, this]; simp [Lib.hasSuffix]
  · rw [List.concat_eq_append] at h
    have h2 := bt_snoc h
    have h3 : 0 < s.size := by rw [ba_size, h]; simp
    have e : Lib.hasSuffix (r ++ [c]) (⟨#[93]⟩ : ByteArray).data.toList = ((93 : UInt8) == c) := by simp [Lib.hasSuffix, List.isSuffixOf, List.isPrefixOf]
    rw [h, e, h2, Bool.eq_iff_iff, beq_iff_eq, decide_eq_true_eq]
    constructor
    · rintro rfl; exact ⟨h3, rfl⟩
    · rintro ⟨_, h⟩; exact (UInt8.toNat_inj.1 (show c.toNat = (93 : UInt8).toNat from h)).symm
theorem cut91_yes (s : ByteArray) (w : World) (h : 0 < s.size ∧ bt s 0 = 91) : Calls Tryd.prog 72 #[.string s, .string ⟨#[91]⟩] w fun e w' => e = .returned (.tuple #[.string (s.extract 1 s.size), .bool true]) ∧ w = w' := by
  refine (Tryd.strings_CutPrefix s ⟨#[91]⟩ w).mono ?_
  rintro e w' ⟨rfl, rfl⟩
  refine ⟨?_, rfl⟩
  unfold Lib.trimPrefix
  rw [pre91, decide_eq_true h, if_pos rfl]
  have e : (⟨(List.drop (⟨#[91]⟩ : ByteArray).data.toList.length s.data.toList).toArray⟩ : ByteArray) = s.extract 1 s.size := ba_ext (by rw [Lib.extract_to_end]; rfl)
  rw [e]
theorem cut91_no (s : ByteArray) (w : World) (h : ¬ (0 < s.size ∧ bt s 0 = 91)) : Calls Tryd.prog 72 #[.string s, .string ⟨#[91]⟩] w fun e w' => e = .returned (.tuple #[.string s, .bool false]) ∧ w = w' := by
  refine (Tryd.strings_CutPrefix s ⟨#[91]⟩ w).mono ?_
  rintro e w' ⟨rfl, rfl⟩
  refine ⟨?_, rfl⟩
  unfold Lib.trimPrefix
  rw [pre91, decide_eq_false h, if_neg (by simp)]
theorem cut93_yes (s : ByteArray) (w : World) (hs : s.size ≤ 1000000000) (h : 0 < s.size ∧ bt s (s.size - 1) = 93) : Calls Tryd.prog 73 #[.string s, .string ⟨#[93]⟩] w fun e w' => e = .returned (.tuple #[.string (s.extract 0 (s.size - 1)), .bool true]) ∧ w = w' := by
  refine (Tryd.strings_CutSuffix s ⟨#[93]⟩ w (by omega)).mono ?_
  rintro e w' ⟨rfl, rfl⟩
  refine ⟨?_, rfl⟩
  unfold Lib.trimSuffix
  rw [suf93, decide_eq_true h, if_pos rfl]
  have e : (⟨(List.take (s.data.toList.length - (⟨#[93]⟩ : ByteArray).data.toList.length) s.data.toList).toArray⟩ : ByteArray) = s.extract 0 (s.size - 1) := ba_ext (by rw [Lib.extract_data]; simp)
  rw [e]
theorem cut93_no (s : ByteArray) (w : World) (hs : s.size ≤ 1000000000) (h : ¬ (0 < s.size ∧ bt s (s.size - 1) = 93)) : Calls Tryd.prog 73 #[.string s, .string ⟨#[93]⟩] w fun e w' => e = .returned (.tuple #[.string s, .bool false]) ∧ w = w' := by
  refine (Tryd.strings_CutSuffix s ⟨#[93]⟩ w (by omega)).mono ?_
  rintro e w' ⟨rfl, rfl⟩
  refine ⟨?_, rfl⟩
  unfold Lib.trimSuffix
  rw [suf93, decide_eq_false h, if_neg (by simp)]
theorem hs_nemp {x : ByteArray} (h : 0 < x.size) : ¬ x.toList = [] ∧ x.toList.isEmpty = false := by
  have : ¬ x.toList = [] := fun e => by rw [ba_size', ← ByteArray.toList_eq, e] at h; exact Nat.lt_irrefl 0 h
  exact ⟨this, by rw [List.isEmpty_eq_false_iff]; exact this⟩
theorem hs_emp {x : ByteArray} (h : ¬ 0 < x.size) : x = ⟨#[]⟩ := ba_ext (List.length_eq_zero_iff.1 (by rw [← ba_size]; omega))
set_option maxRecDepth 100000 in
set_option maxHeartbeats 2000000 in
theorem hs_named_any (s : ByteArray) (w : World) (hs : s.size ≤ 1000000) : Calls Tryd.prog 63 #[.string s] w fun e w' => e = .returned (.bool (hsNamed s)) ∧ Below w.heap.size w w' := by
  by_cases hl : 0 < s.size ∧ bt s 0 = 91
  · have HX := Kp.mk (show hsNamed s = (decide (2 < s.size) && ((bt s (s.size - 1) == 93) && allB hsLit (s.extract 1 (s.size - 1)))) by unfold hsNamed; rw [if_pos hl])
    have HC := Kp.mk (fun w => cut91_yes s w hl)
    have hsz : (s.extract 1 s.size).size = s.size - 1 := by rw [ByteArray.size_extract]; omega
    by_cases h1 : 1 < s.size ∧ bt s (s.size - 1) = 93
    · have hq : 0 < (s.extract 1 s.size).size ∧ bt (s.extract 1 s.size) ((s.extract 1 s.size).size - 1) = 93 := by
        refine ⟨by omega, ?_⟩
        rw [hsz, ext_bt s 1 s.size _ (by omega) (by omega), show 1 + (s.size - 1 - 1) = s.size - 1 by omega]
        exact h1.2
      have hxx : (s.extract 1 s.size).extract 0 (s.size - 1 - 1) = s.extract 1 (s.size - 1) := by
        refine ba_ext ?_
        simp only [Lib.extract_data, List.drop_zero, List.take_take, Nat.sub_zero]
        rw [show min (s.size - 1 - 1) (s.size - 1) = s.size - 1 - 1 by omega]
      have HC2 := Kp.mk (fun w => cut93_yes (s.extract 1 s.size) w (by omega) hq)
      rw [hsz, hxx] at HC2
      have h9 := h1.2
      have hz : (s.extract 1 (s.size - 1)).size = s.size - 2 := by rw [ByteArray.size_extract]; omega
      clear hq hxx hl h1 hsz
      generalize hX : s.extract 1 (s.size - 1) = X at *
      generalize hY : s.extract 1 s.size = Y at *
      clear hX hY
      by_cases h2 : 2 < s.size
      · obtain ⟨n1, n2⟩ := hs_nemp (x := X) (by omega)
        have HX2 := Kp.mk (show hsNamed s = allB hsLit X by rw [HX.out, h9, decide_eq_true h2]; rfl)
        clear h9 HX
        go_enter Tryd.func63, Tryd.ntmps63
        go_wp2_with fail
        refine (HC.out _).mono ?_
        rintro e w1 ⟨rfl, rfl⟩
        go_wp2_with fail
        refine (HC2.out _).mono ?_
        rintro e w1 ⟨rfl, rfl⟩
        go_wp2_with fail
        refine (hs_all_any 74 hsLit hsLit_high hs_lit_any callF_hslit X _ (by unfold maxLen; omega)).mono ?_
        rintro e w2 ⟨rfl, hb⟩
        go_wp2_with fail
        go_ret
        exact ⟨by rw [HX2.out]; rfl, hb⟩
      · have he : X = ⟨#[]⟩ := hs_emp (by omega)
        subst he
        have HX2 := Kp.mk (show hsNamed s = false by rw [HX.out, decide_eq_false h2]; rfl)
        clear h9 HX h2
        go_enter Tryd.func63, Tryd.ntmps63
        go_wp2_with fail
        refine (HC.out _).mono ?_
        rintro e w1 ⟨rfl, rfl⟩
        go_wp2_with fail
        refine (HC2.out _).mono ?_
        rintro e w1 ⟨rfl, rfl⟩
        go_wp2_with fail
        go_ret
        exact ⟨by rw [HX2.out]; rfl, Below.refl _ _⟩
    · have hq : ¬ (0 < (s.extract 1 s.size).size ∧ bt (s.extract 1 s.size) ((s.extract 1 s.size).size - 1) = 93) := by
        rintro ⟨q1, q2⟩
        rw [hsz, ext_bt s 1 s.size _ (by omega) (by omega), show 1 + (s.size - 1 - 1) = s.size - 1 by omega] at q2
        exact h1 ⟨by omega, q2⟩
      have HC2 := Kp.mk (fun w => cut93_no (s.extract 1 s.size) w (by omega) hq)
      have HX2 := Kp.mk (show hsNamed s = false by
        rw [HX.out]
        by_cases h2 : 2 < s.size
        · have : (bt s (s.size - 1) == 93) = false := beq_eq_false_iff_ne.2 fun e => h1 ⟨by omega, e⟩
          rw [this]; simp
        · rw [decide_eq_false h2]; rfl)
      clear hq hl h1 hsz
      go_enter Tryd.func63, Tryd.ntmps63
      go_wp2_with fail
      refine (HC.out _).mono ?_
      rintro e w1 ⟨rfl, rfl⟩
      go_wp2_with fail
      refine (HC2.out _).mono ?_
      rintro e w1 ⟨rfl, rfl⟩
      go_wp2_with fail
      go_ret
      exact ⟨by rw [HX2.out]; rfl, Below.refl _ _⟩
  · have HX := Kp.mk (show hsNamed s = (decide (0 < s.size) && (hsRun s.data.toList == some 0)) by unfold hsNamed; rw [if_neg hl])
    have HC := Kp.mk (fun w => cut91_no s w hl)
    clear hl
    by_cases h0 : 0 < s.size
    · obtain ⟨n1, n2⟩ := hs_nemp h0
      have HX2 := Kp.mk (show hsNamed s = (hsRun s.data.toList == some 0) by rw [HX.out, decide_eq_true h0]; rfl)
      clear HX
      have hnew : HsC w.heap.size 0 (w.alloc (.cells #[.int .i64 0] 3)) := heap_alloc_new w _
      have HN := Kp.mk hnew
      clear hnew
      go_enter Tryd.func63, Tryd.ntmps63
      go_wp2_with fail
      refine (HC.out _).mono ?_
      rintro e w1 ⟨rfl, rfl⟩
      go_wp2_with fail
      refine (hs_all_st _ s _ HN.out (by unfold maxLen; omega)).mono ?_
      rintro e w2 ⟨rfl, hc, ho⟩
      have HB := Kp.mk (((Below.refl _ w).alloc (Nat.le_refl _) (.cells #[.int .i64 0] 3)).trans (ho.below (B := w.heap.size) (Nat.le_refl _) (by simp) (fun k e => by cases e)))
      cases hr : hsRun s.data.toList with
      | none =>
        rw [hr] at HX2
        clear hc ho hr
        go_wp2_with fail
        go_ret
        exact ⟨by rw [HX2.out]; rfl, HB.out⟩
      | some l =>
        have c1 := blk_cell (i := 0) (hc l hr) rfl
        rw [hr] at HX2
        clear hc ho hr
        by_cases hl0 : l = 0
        · subst hl0
          go_wp2_with fail
          go_ret
          exact ⟨by rw [HX2.out]; rfl, HB.out⟩
        · have q : ((l : Int) == 0) = false := beq_eq_false_iff_ne.2 (by omega)
          have HX3 := Kp.mk (show hsNamed s = false by rw [HX2.out, beq_eq_false_iff_ne]; intro e; cases e; exact hl0 rfl)
          have q2 : ¬ l = 0 := hl0
          clear HX2
          go_wp2_with fail
          go_ret
          exact ⟨by rw [HX3.out]; rfl, HB.out⟩
    · obtain rfl := hs_emp h0
      clear h0
      go_enter Tryd.func63, Tryd.ntmps63
      go_wp2_with fail
      refine (HC.out _).mono ?_
      rintro e w1 ⟨rfl, rfl⟩
      go_wp2_with fail
      go_ret
      exact ⟨rfl, (Below.refl _ _).alloc (Nat.le_refl _) _⟩
end Go.Proofs.YtggnnaafkekihaaDoor
namespace Go.Proofs.YtggnnaafkekihaaDoor
open Go.RowKit
set_option linter.unusedVariables false
set_option linter.unusedSimpArgs false

theorem hs_fail {s : ByteArray} (h : hsE s ≠ 0) : hsN s = ⟨#[]⟩ ∧ hsP s = 0 := by
  unfold hsN hsP
  rw [if_neg h, if_neg h]
  exact ⟨rfl, rfl⟩
def hsRet (s : ByteArray) : Value := .tuple #[.string (hsN s), .int .i64 (hsP s), .int .i64 (hsE s)]
theorem hsRet_bad {s : ByteArray} {k : Int} (h : hsE s = k) (hk : k ≠ 0) : hsRet s = .tuple #[.string ⟨#[]⟩, .int .i64 0, .int .i64 k] := by
  obtain ⟨a, b⟩ := hs_fail (s := s) (by rw [h]; exact hk)
  unfold hsRet
  rw [a, b, h]
theorem hsE_empty : hsE ⟨#[]⟩ = 2 := rfl
theorem hsE_digs {s : ByteArray} (h0 : 0 < s.size) (h1 : hsHas s = true) (h2 : hsDigs (hsNum s) = false) : hsE s = 3 := by
  unfold hsE
  rw [if_neg (by omega), if_pos ⟨h1, h2⟩]
theorem hsE_noname {s : ByteArray} (h0 : 0 < s.size) (h2 : hsNamed (hsName s) = false) : hsE s = 3 := by
  unfold hsE
  rw [if_neg (by omega)]
  split <;> first | rfl | rw [if_pos h2]
theorem hsE_num {s : ByteArray} (h0 : 0 < s.size) (h1 : hsHas s = true) (h2 : hsDigs (hsNum s) = true) (h3 : hsNamed (hsName s) = true) : hsE s = numE 10 (hsNum s) 65535 := by
  unfold hsE
  rw [if_neg (by omega), if_neg (by rw [h2]; simp), if_neg (by rw [h3]; simp), if_pos h1]
theorem hsRet_whole {s : ByteArray} (h0 : 0 < s.size) (h1 : hsHas s = false) (h3 : hsNamed s = true) : hsRet s = .tuple #[.string s, .int .i64 80, .int .i64 0] := by
  have hn : hsName s = s := by unfold hsName; rw [h1]; rfl
  have hE : hsE s = 0 := by
    unfold hsE
    rw [if_neg (by omega), if_neg (by rw [h1]; simp), hn, if_neg (by rw [h3]; simp), if_neg (by rw [h1]; simp)]
  unfold hsRet hsN hsP
  rw [hE, if_pos rfl, if_pos rfl, hn, if_neg (by rw [h1]; simp)]
theorem hsRet_port {s : ByteArray} (h0 : 0 < s.size) (h1 : hsHas s = true) (h2 : hsDigs (hsNum s) = true) (h3 : hsNamed (hsName s) = true) (h4 : numE 10 (hsNum s) 65535 = 0) :
    hsRet s = .tuple #[.string (hsName s), .int .i64 (numV 10 (hsNum s) 65535), .int .i64 0] := by
  have hE := hsE_num h0 h1 h2 h3
  rw [h4] at hE
  unfold hsRet hsN hsP
  rw [hE, if_pos rfl, if_pos rfl, if_pos h1]
theorem hsCol_spec (s : ByteArray) : hsCol s = -1 ∨ ∃ c : Nat, c < s.size ∧ hsCol s = c := by
  rcases last_spec s 58 with ⟨h, _⟩ | ⟨c, h1, h2, _⟩
  · exact .inl h
  · exact .inr ⟨c, h1, h2⟩
theorem hsBra_spec (s : ByteArray) : -1 ≤ hsBra s ∧ hsBra s < s.size := by
  rcases last_spec s 93 with ⟨h, _⟩ | ⟨c, h1, h2, _⟩
  · have : hsBra s = -1 := h; omega
  · have : hsBra s = c := h2; omega
theorem hs_last58 (s : ByteArray) (w : World) (hs : s.size ≤ 1000000) : Calls Tryd.prog 60 #[.string s, .int .u8 58] w fun e w' => e = .returned (.int .i64 (hsCol s)) ∧ w = w' :=
  (Tryd.strings_LastIndexByte s 58 (by omega) w).mono fun _ _ h => ⟨h.1, h.2.symm⟩
theorem hs_last93 (s : ByteArray) (w : World) (hs : s.size ≤ 1000000) : Calls Tryd.prog 60 #[.string s, .int .u8 93] w fun e w' => e = .returned (.int .i64 (hsBra s)) ∧ w = w' :=
  (Tryd.strings_LastIndexByte s 93 (by omega) w).mono fun _ _ h => ⟨h.1, h.2.symm⟩
set_option maxRecDepth 100000 in
set_option maxHeartbeats 2000000 in
theorem hs_parse_any (s : ByteArray) (w : World) (hs : s.size ≤ 1000000) : Calls Tryd.prog 48 #[.string s] w fun e w' => e = .returned (hsRet s) ∧ Below w.heap.size w w' := by
  by_cases h0 : 0 < s.size
  · obtain ⟨n1, n2⟩ := hs_nemp h0
    have hb := hsBra_spec s
    have HL := Kp.mk (fun w => hs_last58 s w hs)
    have HL2 := Kp.mk (fun w => hs_last93 s w hs)
    cases hh : hsHas s
    · have hlt : ¬ hsBra s < hsCol s := of_decide_eq_false hh
      have hnm : hsName s = s := by unfold hsName; rw [hh]; rfl
      have HH := Kp.mk hh
      have HNM := Kp.mk (fun (h : hsNamed s = false) => hsRet_bad (hsE_noname h0 (by rw [hnm]; exact h)) (by decide))
      have HOK := Kp.mk (fun h => hsRet_whole h0 hh h)
      clear hh hnm
      generalize hsCol s = c at *
      generalize hsBra s = b at *
      go_enter Tryd.func48, Tryd.ntmps48
      go_wp2_with fail
      refine (HL.out _).mono ?_
      rintro e w1 ⟨rfl, rfl⟩
      go_wp2_with fail
      refine (HL2.out _).mono ?_
      rintro e w1 ⟨rfl, rfl⟩
      go_wp2_with fail
      refine (hs_named_any s _ hs).mono ?_
      rintro e w1 ⟨rfl, hb1⟩
      have HB := Kp.mk hb1
      clear hb1
      cases hn : hsNamed s
      · have HR := Kp.mk (HNM.out hn)
        clear hn
        go_wp2_with fail
        go_ret3
        exact ⟨by rw [HR.out]; rfl, HB.out⟩
      · have HR := Kp.mk (HOK.out hn)
        clear hn
        go_wp2_with fail
        go_ret3
        exact ⟨by rw [HR.out]; rfl, HB.out⟩
    · have hlt : hsBra s < hsCol s := of_decide_eq_true hh
      obtain ⟨c, hc1, hc2⟩ : ∃ c : Nat, c < s.size ∧ hsCol s = c := by
        rcases hsCol_spec s with h | h
        · omega
        · exact h
      have hnm : hsName s = s.extract 0 c := by unfold hsName; rw [if_pos hh, hc2, Int.toNat_natCast]; rfl
      have hnu : hsNum s = s.extract (c + 1) s.size := by unfold hsNum; rw [if_pos hh, hc2, Int.toNat_natCast]; rfl
      have HD := Kp.mk (fun h => hsRet_bad (hsE_digs h0 hh h) (by decide))
      have HNM := Kp.mk (fun (h : hsNamed (hsName s) = false) => hsRet_bad (hsE_noname h0 h) (by decide))
      have HE := Kp.mk (fun h2 h3 => hsE_num h0 hh h2 h3)
      have HOK := Kp.mk (fun h2 h3 h4 => hsRet_port h0 hh h2 h3 h4)
      rw [hnm] at HNM HE HOK
      rw [hnu] at HD HE HOK
      rw [hc2] at HL hlt
      have HX := Kp.mk (show hsDigs (s.extract (c + 1) s.size) = (decide (0 < (s.extract (c + 1) s.size).size) && allB hsDig (s.extract (c + 1) s.size)) from rfl)
      have hz1 : (s.extract 0 c).size ≤ 1000000 := by rw [ByteArray.size_extract]; omega
      have hz2 : (s.extract (c + 1) s.size).size ≤ 1000000 := by rw [ByteArray.size_extract]; omega
      have d1 : (0 : Int) ≤ (c : Int) := by omega
      have d2 : (c : Int) ≤ (s.size : Int) := by omega
      have d3 : (c : Int) + 1 ≤ (s.size : Int) := by omega
      have d4 : (0 : Int) ≤ (c : Int) + 1 := by omega
      have d5 : IntKind.i64.wrap ((c : Int) + 1) = (c : Int) + 1 := wrap_small _ (by omega) (by omega)
      have d6 : ((c : Int) + 1).toNat = c + 1 := by omega
      clear hh hnm hnu hc2
      generalize hsBra s = b at *
      go_enter Tryd.func48, Tryd.ntmps48
      go_wp2_with fail
      refine (HL.out _).mono ?_
      rintro e w1 ⟨rfl, rfl⟩
      go_wp2_with fail
      refine (HL2.out _).mono ?_
      rintro e w1 ⟨rfl, rfl⟩
      go_wp2_with fail
      go_quiet (fail)
      have HB0 := Kp.mk (gdrewN w nq)
      generalize w.drewN nq = w0 at *
      clear d5 d6
      generalize s.extract 0 c = X at *
      generalize s.extract (c + 1) s.size = Y at *
      go_wp2_with fail
      refine (hs_all_any 62 hsDig hsDig_high hs_digit_any callF_hsdig Y _ (by unfold maxLen; omega)).mono ?_
      rintro e w1 ⟨rfl, hb1⟩
      have HB1 := Kp.mk (HB0.out.trans (hb1.mono HB0.out.size))
      clear hb1
      cases ha : allB hsDig Y
      · have HR := Kp.mk (HD.out (by rw [HX.out, ha, Bool.and_false]))
        clear ha
        go_wp2_with fail
        go_ret3
        exact ⟨by rw [HR.out]; rfl, HB1.out⟩
      · by_cases hy : 0 < Y.size
        · obtain ⟨y1, y2⟩ := hs_nemp hy
          have HDG := Kp.mk (show hsDigs Y = true by rw [HX.out, ha, decide_eq_true hy]; rfl)
          clear ha
          go_wp2_with fail
          refine (hs_named_any X _ hz1).mono ?_
          rintro e w2 ⟨rfl, hb2⟩
          have HB2 := Kp.mk (HB1.out.trans (hb2.mono HB1.out.size))
          clear hb2
          cases hn : hsNamed X
          · have HR := Kp.mk (HNM.out hn)
            clear hn
            go_wp2_with fail
            go_ret3
            exact ⟨by rw [HR.out]; rfl, HB2.out⟩
          · have HE1 := Kp.mk (HE.out HDG.out hn)
            have HOK1 := Kp.mk (HOK.out HDG.out hn)
            clear hn
            go_wp2_with fail
            refine (dec_any Y 65535 _ (by unfold maxLen; omega) (by decide) (by decide)).mono ?_
            rintro e w3 ⟨rfl, hb3⟩
            have HB3 := Kp.mk (HB2.out.trans (hb3.mono HB2.out.size))
            clear hb3
            by_cases he : numE 10 Y 65535 = 0
            · have HR := Kp.mk (HOK1.out he)
              rw [he]
              clear he
              go_wp2_with fail
              go_ret3
              exact ⟨by rw [HR.out]; rfl, HB3.out⟩
            · have HR := Kp.mk (hsRet_bad HE1.out he)
              have he2 : (numE 10 Y 65535 != 0) = true := bne_iff_ne.2 he
              generalize numE 10 Y 65535 = ee at *
              go_wp2_with fail
              go_ret3
              exact ⟨by rw [HR.out]; rfl, HB3.out⟩
        · obtain rfl := hs_emp hy
          have HR := Kp.mk (HD.out (by rw [HX.out]; rfl))
          clear ha
          go_wp2_with fail
          go_ret3
          exact ⟨by rw [HR.out]; rfl, HB1.out⟩
  · obtain rfl := hs_emp h0
    have HR := Kp.mk (hsRet_bad hsE_empty (by decide))
    go_enter Tryd.func48, Tryd.ntmps48
    go_wp2_with fail
    go_ret3
    exact ⟨by rw [HR.out]; rfl, Below.refl _ _⟩
theorem app3 (a b c : ByteArray) : a ++ b ++ c = a ++ (b ++ c) := ba_ext (by simp)
set_option maxRecDepth 100000 in
set_option maxHeartbeats 1000000 in
theorem hs_text_any (nm : ByteArray) (p : Int) (w : World) (hn : nm.size ≤ 1000000) (h0 : -9223372036854775808 ≤ p) (h1 : p ≤ 9223372036854775807) :
    Calls Tryd.prog 49 #[.string nm, .int .i64 p] w fun e w' => e = .returned (.string (hsTxt nm p)) ∧ Below w.heap.size w w' := by
  by_cases h : p = 80
  · subst h
    have HT := Kp.mk (show hsTxt nm 80 = lowB nm by unfold hsTxt; rw [if_pos rfl])
    go_enter Tryd.func49, Tryd.ntmps49
    go_wp2_with fail
    refine (oct_lower_any nm _ (by omega)).mono ?_
    rintro e w1 ⟨rfl, hb⟩
    go_wp2_with fail
    go_ret
    exact ⟨by rw [HT.out]; rfl, hb⟩
  · have q : (p == 80) = false := beq_eq_false_iff_ne.2 h
    have HT := Kp.mk (show hsTxt nm p = lowB nm ++ ⟨#[58]⟩ ++ ofL (textL p) by unfold hsTxt; rw [if_neg h, app3]; rfl)
    have z1 : (lowB nm).size ≤ 1000000 := by rw [lowB_size]; exact hn
    have z2 : (ofL (textL p)).size ≤ 21 := by rw [ofL_size]; exact textL_len p
    have z3 : (⟨#[58]⟩ : ByteArray).size ≤ 1 := by decide
    clear h
    have HLE : Kp (lowB nm = lowB nm) := ⟨rfl⟩
    have HTE : Kp (ofL (textL p) = ofL (textL p)) := ⟨rfl⟩
    obtain ⟨L, hL⟩ : ∃ L, lowB nm = L := ⟨_, rfl⟩
    obtain ⟨T, hT⟩ : ∃ T, ofL (textL p) = T := ⟨_, rfl⟩
    replace HLE := Kp.mk hL
    replace HTE := Kp.mk hT
    rw [hL, hT] at HT
    rw [hL] at z1
    rw [hT] at z2
    clear hL hT
    have z4 : (L ++ ⟨#[58]⟩).size ≤ 1000001 := by rw [ByteArray.size_append]; omega
    go_enter Tryd.func49, Tryd.ntmps49
    go_wp2_with fail
    refine (oct_lower_any nm _ (by omega)).mono ?_
    rintro e w1 ⟨rfl, hb⟩
    rw [HLE.out]
    have HB := Kp.mk hb
    clear hb
    go_wp2_with fail
    refine (text_any p _ h0 h1).mono ?_
    rintro e w2 ⟨rfl, hb⟩
    rw [HTE.out]
    have HB2 := Kp.mk (HB.out.trans (hb.mono HB.out.size))
    clear hb
    go_wp2_with fail
    go_ret
    exact ⟨by rw [HT.out]; rfl, HB2.out⟩
def hsKR (s : ByteArray) : Value := .tuple #[.string (hsK s), .bool (hsE s == 0)]
theorem hsN_size (s : ByteArray) : (hsN s).size ≤ s.size := by
  unfold hsN hsName hsUp
  split
  · split
    · rw [ByteArray.size_extract]; omega
    · omega
  · show 0 ≤ s.size; omega
set_option maxRecDepth 100000 in
set_option maxHeartbeats 1000000 in
theorem hs_key_any (s : ByteArray) (w : World) (hs : s.size ≤ 1000000) : Calls Tryd.prog 30 #[.string s] w fun e w' => e = .returned (hsKR s) ∧ Below w.heap.size w w' := by
  have HD := Kp.mk (show hsRet s = .tuple #[.string (hsN s), .int .i64 (hsP s), .int .i64 (hsE s)] from rfl)
  have HK := Kp.mk (show hsKR s = .tuple #[.string (if hsE s = 0 then hsTxt (hsN s) (hsP s) else ⟨#[]⟩), .bool (hsE s == 0)] from rfl)
  have hp := hsP_range s
  have hz := hsN_size s
  generalize hsN s = N at *
  generalize hsP s = p at *
  generalize hsE s = E at *
  go_enter Tryd.func30, Tryd.ntmps30
  go_wp2_with fail
  refine (hs_parse_any s _ hs).mono ?_
  rintro e w1 ⟨rfl, hb⟩
  rw [HD.out]
  have HB := Kp.mk hb
  clear hb
  by_cases hE : E = 0
  · subst hE
    rw [if_pos rfl] at HK
    go_wp2_with fail
    refine (hs_text_any N p _ (by omega) (by omega) (by omega)).mono ?_
    rintro e w2 ⟨rfl, hb⟩
    have HB2 := Kp.mk (HB.out.trans (hb.mono HB.out.size))
    clear hb
    go_wp2_with fail
    go_ret2
    exact ⟨by rw [HK.out]; rfl, HB2.out⟩
  · have q : (E != 0) = true := bne_iff_ne.2 hE
    rw [if_neg hE, show (E == 0) = false from beq_eq_false_iff_ne.2 hE] at HK
    clear hE
    go_wp2_with fail
    go_ret2
    exact ⟨by rw [HK.out]; rfl, HB.out⟩
end Go.Proofs.YtggnnaafkekihaaDoor
