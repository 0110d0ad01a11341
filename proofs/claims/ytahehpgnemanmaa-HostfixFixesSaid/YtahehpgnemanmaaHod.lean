/- Hosts (layer 11): the program's own functions. -/
import Derived.Test.YtahehpgnemanmaaHoc
namespace Go.Proofs.Ytahehpgnemanmaa
open Go.RowKit
set_option linter.unusedVariables false
set_option linter.unusedSimpArgs false

theorem hsStep_ok (left : Nat) (c : UInt8) : hsStep (some left) c = if hsOk left c.toNat = true then some (hsNew left c.toNat) else none := by
  unfold hsStep hsOk hsNew
  by_cases h : 0 < left
  · simp only [h, if_true]
  · simp only [h, if_false]
    by_cases h37 : c.toNat = 37
    · simp [h37]
    · simp [h37]
theorem hsOk_high (left n : Nat) (h : 128 ≤ n) : hsOk left n = false := by
  unfold hsOk
  split
  · exact hsHex_high n h
  · rw [hsNm_high n h, show (n == 37) = false from beq_eq_false_iff_ne.2 (by omega)]; rfl
theorem hsNew_le {left n : Nat} (h : left ≤ 2) : hsNew left n ≤ 2 := by
  unfold hsNew
  split
  · omega
  · split <;> omega
/-- Where the run over s has come to. -/
structure HsAt (b it pos : Nat) (s : ByteArray) (w wr : World) : Prop where
  it : wr.heap[it]? = some (.stringIter s pos)
  le : pos ≤ s.size
  st : ∃ left, hsRun (s.data.toList.take pos) = some left ∧ left ≤ 2 ∧ HsC b left wr
  onl : Onl b none w wr
theorem hsAt_next {b pos p left : Nat} {s : ByteArray} {w wr w' : World} (h : HsAt b w.heap.size pos s w wr) (hb : b < w.heap.size) (hc : HsC b left wr)
    : HsC b left (wr.iterAt w.heap.size s p) ∧ ((wr.iterAt w.heap.size s p).heap[w.heap.size]? = some (.stringIter s p)) ∧ Onl b none w (wr.iterAt w.heap.size s p) := by
  refine ⟨(Lib.iterAt_other wr _ b s p (by omega)).trans hc, Lib.iterAt_heap wr _ s pos p h.it, ⟨h.onl.os, h.onl.tape, h.onl.output, by rw [Lib.iterAt_size]; exact h.onl.size, fun k hk h1 h2 => (Lib.iterAt_other wr _ k s p (by omega)).trans (h.onl.block k hk h1 h2)⟩⟩
def HsAllPost (b : Nat) (s : ByteArray) (w : World) (e : Ending) (w' : World) : Prop := e = .returned (.bool (hsRun s.data.toList).isSome) ∧ (∀ l, hsRun s.data.toList = some l → HsC b l w') ∧ Onl b none w w'
theorem hsAll_false {b pos left : Nat} {s : ByteArray} {w w' : World} (hl : pos < s.size) (h : hsRun (s.data.toList.take pos) = some left) (hk : hsOk left (bt s pos) = false) (ho : Onl b none w w') :
    HsAllPost b s w (.returned (.bool false)) w' := by
  have h1 : hsRun (s.data.toList.take (pos + 1)) = none := by
    rw [hsRun_take s pos hl, h, hsStep_ok, bt_at s pos hl, hk]; rfl
  have h2 := hsRun_mono (m := s.size) h1 (by omega)
  rw [List.take_of_length_le (by rw [← ba_size]; omega)] at h2
  exact ⟨by rw [h2]; rfl, (fun l hl => by rw [h2] at hl; cases hl), ho⟩
set_option maxRecDepth 100000 in
set_option maxHeartbeats 2000000 in
theorem hs_all_st (b : Nat) (s : ByteArray) (w : World) (h : HsC b 0 w) (hs : s.size ≤ maxLen) :
    Calls Try.prog 34 #[.string s, .func (.func 67) #[] #[.pointer (some ⟨b, 0, none⟩)]] w (HsAllPost b s w) := by
  unfold maxLen at hs
  have HC := Kp.mk h
  have hbl := blk_lt h
  clear h
  go_enter Try.func34, Try.ntmps34
  go_wp2_with fail
  go_loopw [6] (fun _ wr => ∃ pos : Nat, HsAt b w.heap.size pos s w wr) (fun _ wr => s.size - wr.iterPos w.heap.size)
  case atStart => exact ⟨0, World.iter_heap _ _ _, by omega, ⟨0, rfl, by omega, (blk_alloc HC.out)⟩, (Onl.refl _ _ _).alloc _⟩
  case round =>
    obtain ⟨pos, hat⟩ := hrel
    have HA := Kp.mk hat
    have hit := hat.it
    have hle := hat.le
    obtain ⟨left, hr, hl2, hcell⟩ := hat.st
    have HR := Kp.mk hr
    have HCE := Kp.mk hcell
    have hmeas : wr.iterPos w.heap.size = pos := by simp [World.iterPos, hit]
    have HM := Kp.mk hmeas
    have hlt0 : w.heap.size < wr.heap.size := (Array.getElem?_eq_some_iff.1 hit).1
    clear hat hr hcell
    by_cases hlt : pos < s.size
    · have hnx : ∀ ty, (Instr.next (.pointer (some ⟨w.heap.size, 0, none⟩)) true ty).run Try.prog wr = _ := fun ty => Lib.run_next_any_at wr w.heap.size s pos ty hit hlt
      clear hit hmeas
      have hd2 := decode_le s pos
      by_cases hlow : bt s pos < 128
      · have hdec := dec_low s pos hlt hlow
        rw [hdec] at hnx
        obtain ⟨g1, g2, g3⟩ := hsAt_next (p := pos + 1) (w' := wr) HA.out hbl HCE.out
        have G1 := Kp.mk g1
        have G2 := Kp.mk g2
        have G3 := Kp.mk g3
        clear hdec hd2 g1 g2 g3
        go_wp2_with fail
        refine (hs_step_any b left _ _ G1.out (by omega) (by omega) hl2).mono ?_
        rintro e w' ⟨rfl, hn, ho⟩
        rw [Int.toNat_natCast] at hn ⊢
        have HO := Kp.mk (G3.out.trans (Nxt.refl _ _) ho)
        have HN := Kp.mk hn
        have HI := Kp.mk (ho.heap G2.out (by omega) (by simp))
        clear hn ho
        cases ht : hsOk left (bt s pos)
        · have HT := Kp.mk ht
          clear ht
          go_wp2_with fail
          go_ret
          exact hsAll_false hlt HR.out HT.out HO.out
        · have HC2 := Kp.mk (HN.out ht)
          have HR2 := Kp.mk (show hsRun (s.data.toList.take (pos + 1)) = some (hsNew left (bt s pos)) by rw [hsRun_take s pos hlt, HR.out, hsStep_ok, bt_at s pos hlt, ht]; rfl)
          clear ht
          go_wp2_with fail
          go_roundw
          case rel => exact ⟨pos + 1, HI.out, by omega, ⟨_, HR2.out, hsNew_le hl2, HC2.out⟩, HO.out⟩
          case measure =>
            have hi' := HI.out
            rw [HM.out]
            simp [World.iterPos, hi']
            omega
      · have hhi := dec_high s pos hlt (by omega)
        obtain ⟨hh1, hh2, hh3⟩ := hhi
        have hmax : (Utf8.decode s pos).1 ≤ 1114111 := Lib.rune_le s pos
        clear hh3 hd2
        generalize Utf8.decode s pos = d at *
        obtain ⟨r, wd⟩ := d
        dsimp only at *
        obtain ⟨g1, g2, g3⟩ := hsAt_next (p := pos + wd) (w' := wr) HA.out hbl HCE.out
        have G1 := Kp.mk g1
        have G3 := Kp.mk g3
        clear g1 g2 g3
        go_wp2_with fail
        refine (hs_step_any b left _ _ G1.out (by omega) (by omega) hl2).mono ?_
        rintro e w' ⟨rfl, hn, ho⟩
        rw [Int.toNat_natCast, hsOk_high _ _ hh1]
        have HO := Kp.mk (G3.out.trans (Nxt.refl _ _) ho)
        clear hn ho
        go_wp2_with fail
        go_ret
        exact hsAll_false hlt HR.out (hsOk_high _ _ (by omega)) HO.out
    · have hnx : ∀ ty, (Instr.next (.pointer (some ⟨w.heap.size, 0, none⟩)) true ty).run Try.prog wr = _ := fun ty => Lib.run_next_end_at wr w.heap.size s pos ty hit hlt
      have HR2 := Kp.mk (show hsRun s.data.toList = some left by have := HR.out; rwa [List.take_of_length_le (by rw [← ba_size]; omega)] at this)
      clear hit hmeas
      go_wp2_with fail
      go_ret
      exact ⟨by rw [HR2.out]; rfl, fun l hl => by rw [HR2.out] at hl; cases hl; exact HCE.out, HA.out.onl⟩

theorem pre91 (s : ByteArray) : Lib.hasPrefix s.data.toList (⟨#[91]⟩ : ByteArray).data.toList = decide (0 < s.size ∧ bt s 0 = 91) := by
  rw [ba_size]
  cases h : s.data.toList with
  | nil => simp [Lib.hasPrefix]
  | cons c r =>
    have e : Lib.hasPrefix (c :: r) (⟨#[91]⟩ : ByteArray).data.toList = ((91 : UInt8) == c) := by simp [Lib.hasPrefix, List.isPrefixOf]
    rw [e, bt_cons h, Bool.eq_iff_iff, beq_iff_eq, decide_eq_true_eq]
    constructor
    · rintro rfl; exact ⟨by simp, rfl⟩
    · rintro ⟨_, h⟩; exact (UInt8.toNat_inj.1 (show c.toNat = (91 : UInt8).toNat from h)).symm
theorem suf93 (s : ByteArray) : Lib.hasSuffix s.data.toList (⟨#[93]⟩ : ByteArray).data.toList = decide (0 < s.size ∧ bt s (s.size - 1) = 93) := by
  rcases List.eq_nil_or_concat s.data.toList with h | ⟨r, c, h⟩
  · have : s.size = 0 := by rw [ba_size, h]; rfl
    rw [h, this]; simp [Lib.hasSuffix]
  · rw [List.concat_eq_append] at h
    have h2 := bt_snoc h
    have h3 : 0 < s.size := by rw [ba_size, h]; simp
    have e : Lib.hasSuffix (r ++ [c]) (⟨#[93]⟩ : ByteArray).data.toList = ((93 : UInt8) == c) := by simp [Lib.hasSuffix, List.isSuffixOf, List.isPrefixOf]
    rw [h, e, h2, Bool.eq_iff_iff, beq_iff_eq, decide_eq_true_eq]
    constructor
    · rintro rfl; exact ⟨h3, rfl⟩
    · rintro ⟨_, h⟩; exact (UInt8.toNat_inj.1 (show c.toNat = (93 : UInt8).toNat from h)).symm
theorem cut91_yes (s : ByteArray) (w : World) (h : 0 < s.size ∧ bt s 0 = 91) : Calls Try.prog 63 #[.string s, .string ⟨#[91]⟩] w fun e w' => e = .returned (.tuple #[.string (s.extract 1 s.size), .bool true]) ∧ w = w' := by
  refine (Try.strings_CutPrefix s ⟨#[91]⟩ w).mono ?_
  rintro e w' ⟨rfl, rfl⟩
  refine ⟨?_, rfl⟩
  unfold Lib.trimPrefix
  rw [pre91, decide_eq_true h, if_pos rfl]
  have e : (⟨(List.drop (⟨#[91]⟩ : ByteArray).data.toList.length s.data.toList).toArray⟩ : ByteArray) = s.extract 1 s.size := ba_ext (by rw [Lib.extract_to_end]; rfl)
  rw [e]
theorem cut91_no (s : ByteArray) (w : World) (h : ¬ (0 < s.size ∧ bt s 0 = 91)) : Calls Try.prog 63 #[.string s, .string ⟨#[91]⟩] w fun e w' => e = .returned (.tuple #[.string s, .bool false]) ∧ w = w' := by
  refine (Try.strings_CutPrefix s ⟨#[91]⟩ w).mono ?_
  rintro e w' ⟨rfl, rfl⟩
  refine ⟨?_, rfl⟩
  unfold Lib.trimPrefix
  rw [pre91, decide_eq_false h, if_neg (by simp)]
theorem cut93_yes (s : ByteArray) (w : World) (hs : s.size ≤ 1000000000) (h : 0 < s.size ∧ bt s (s.size - 1) = 93) : Calls Try.prog 64 #[.string s, .string ⟨#[93]⟩] w fun e w' => e = .returned (.tuple #[.string (s.extract 0 (s.size - 1)), .bool true]) ∧ w = w' := by
  refine (Try.strings_CutSuffix s ⟨#[93]⟩ w (by omega)).mono ?_
  rintro e w' ⟨rfl, rfl⟩
  refine ⟨?_, rfl⟩
  unfold Lib.trimSuffix
  rw [suf93, decide_eq_true h, if_pos rfl]
  have e : (⟨(List.take (s.data.toList.length - (⟨#[93]⟩ : ByteArray).data.toList.length) s.data.toList).toArray⟩ : ByteArray) = s.extract 0 (s.size - 1) := ba_ext (by rw [Lib.extract_data]; simp)
  rw [e]
theorem cut93_no (s : ByteArray) (w : World) (hs : s.size ≤ 1000000000) (h : ¬ (0 < s.size ∧ bt s (s.size - 1) = 93)) : Calls Try.prog 64 #[.string s, .string ⟨#[93]⟩] w fun e w' => e = .returned (.tuple #[.string s, .bool false]) ∧ w = w' := by
  refine (Try.strings_CutSuffix s ⟨#[93]⟩ w (by omega)).mono ?_
  rintro e w' ⟨rfl, rfl⟩
  refine ⟨?_, rfl⟩
  unfold Lib.trimSuffix
  rw [suf93, decide_eq_false h, if_neg (by simp)]
theorem hs_nemp {x : ByteArray} (h : 0 < x.size) : ¬ x.toList = [] ∧ x.toList.isEmpty = false := by
  have : ¬ x.toList = [] := fun e => by rw [ba_size', ← ByteArray.toList_eq, e] at h; exact Nat.lt_irrefl 0 h
  exact ⟨this, by rw [List.isEmpty_eq_false_iff]; exact this⟩
theorem hs_emp {x : ByteArray} (h : ¬ 0 < x.size) : x = ⟨#[]⟩ := ba_ext (List.length_eq_zero_iff.1 (by rw [← ba_size]; omega))
set_option maxRecDepth 100000 in
set_option maxHeartbeats 2000000 in
theorem hs_named_any (s : ByteArray) (w : World) (hs : s.size ≤ 1000000) : Calls Try.prog 36 #[.string s] w fun e w' => e = .returned (.bool (hsNamed s)) ∧ Below w.heap.size w w' := by
  by_cases hl : 0 < s.size ∧ bt s 0 = 91
  · have HX := Kp.mk (show hsNamed s = (decide (2 < s.size) && ((bt s (s.size - 1) == 93) && allB hsLit (s.extract 1 (s.size - 1)))) by unfold hsNamed; rw [if_pos hl])
    have HC := Kp.mk (fun w => cut91_yes s w hl)
    have hsz : (s.extract 1 s.size).size = s.size - 1 := by rw [ByteArray.size_extract]; omega
    by_cases h1 : 1 < s.size ∧ bt s (s.size - 1) = 93
    · have hq : 0 < (s.extract 1 s.size).size ∧ bt (s.extract 1 s.size) ((s.extract 1 s.size).size - 1) = 93 := by
        refine ⟨by omega, ?_⟩
        rw [hsz, ext_bt s 1 s.size _ (by omega) (by omega), show 1 + (s.size - 1 - 1) = s.size - 1 by omega]
        exact h1.2
      have hxx : (s.extract 1 s.size).extract 0 (s.size - 1 - 1) = s.extract 1 (s.size - 1) := by
        refine ba_ext ?_
        simp only [Lib.extract_data, List.drop_zero, List.take_take, Nat.sub_zero]
        rw [show min (s.size - 1 - 1) (s.size - 1) = s.size - 1 - 1 by omega]
      have HC2 := Kp.mk (fun w => cut93_yes (s.extract 1 s.size) w (by omega) hq)
      rw [hsz, hxx] at HC2
      have h9 := h1.2
      have hz : (s.extract 1 (s.size - 1)).size = s.size - 2 := by rw [ByteArray.size_extract]; omega
      clear hq hxx hl h1 hsz
      generalize hX : s.extract 1 (s.size - 1) = X at *
      generalize hY : s.extract 1 s.size = Y at *
      clear hX hY
      by_cases h2 : 2 < s.size
      · obtain ⟨n1, n2⟩ := hs_nemp (x := X) (by omega)
        have HX2 := Kp.mk (show hsNamed s = allB hsLit X by rw [HX.out, h9, decide_eq_true h2]; rfl)
        clear h9 HX
        go_enter Try.func36, Try.ntmps36
        go_wp2_with fail
        refine (HC.out _).mono ?_
        rintro e w1 ⟨rfl, rfl⟩
        go_wp2_with fail
        refine (HC2.out _).mono ?_
        rintro e w1 ⟨rfl, rfl⟩
        go_wp2_with fail
        refine (hs_all_any 65 hsLit hsLit_high hs_lit_any callF_hslit X _ (by unfold maxLen; omega)).mono ?_
        rintro e w2 ⟨rfl, hb⟩
        go_wp2_with fail
        go_ret
        exact ⟨by rw [HX2.out]; rfl, hb⟩
      · have he : X = ⟨#[]⟩ := hs_emp (by omega)
        subst he
        have HX2 := Kp.mk (show hsNamed s = false by rw [HX.out, decide_eq_false h2]; rfl)
        clear h9 HX h2
        go_enter Try.func36, Try.ntmps36
        go_wp2_with fail
        refine (HC.out _).mono ?_
        rintro e w1 ⟨rfl, rfl⟩
        go_wp2_with fail
        refine (HC2.out _).mono ?_
        rintro e w1 ⟨rfl, rfl⟩
        go_wp2_with fail
        go_ret
        exact ⟨by rw [HX2.out]; rfl, Below.refl _ _⟩
    · have hq : ¬ (0 < (s.extract 1 s.size).size ∧ bt (s.extract 1 s.size) ((s.extract 1 s.size).size - 1) = 93) := by
        rintro ⟨q1, q2⟩
        rw [hsz, ext_bt s 1 s.size _ (by omega) (by omega), show 1 + (s.size - 1 - 1) = s.size - 1 by omega] at q2
        exact h1 ⟨by omega, q2⟩
      have HC2 := Kp.mk (fun w => cut93_no (s.extract 1 s.size) w (by omega) hq)
      have HX2 := Kp.mk (show hsNamed s = false by
        rw [HX.out]
        by_cases h2 : 2 < s.size
        · have : (bt s (s.size - 1) == 93) = false := beq_eq_false_iff_ne.2 fun e => h1 ⟨by omega, e⟩
          rw [this]; simp
        · rw [decide_eq_false h2]; rfl)
      clear hq hl h1 hsz
      go_enter Try.func36, Try.ntmps36
      go_wp2_with fail
      refine (HC.out _).mono ?_
      rintro e w1 ⟨rfl, rfl⟩
      go_wp2_with fail
      refine (HC2.out _).mono ?_
      rintro e w1 ⟨rfl, rfl⟩
      go_wp2_with fail
      go_ret
      exact ⟨by rw [HX2.out]; rfl, Below.refl _ _⟩
  · have HX := Kp.mk (show hsNamed s = (decide (0 < s.size) && (hsRun s.data.toList == some 0)) by unfold hsNamed; rw [if_neg hl])
    have HC := Kp.mk (fun w => cut91_no s w hl)
    clear hl
    by_cases h0 : 0 < s.size
    · obtain ⟨n1, n2⟩ := hs_nemp h0
      have HX2 := Kp.mk (show hsNamed s = (hsRun s.data.toList == some 0) by rw [HX.out, decide_eq_true h0]; rfl)
      clear HX
      have hnew : HsC w.heap.size 0 (w.alloc (.cells #[.int .i64 0] 3)) := heap_alloc_new w _
      have HN := Kp.mk hnew
      clear hnew
      go_enter Try.func36, Try.ntmps36
      go_wp2_with fail
      refine (HC.out _).mono ?_
      rintro e w1 ⟨rfl, rfl⟩
      go_wp2_with fail
      refine (hs_all_st _ s _ HN.out (by unfold maxLen; omega)).mono ?_
      rintro e w2 ⟨rfl, hc, ho⟩
      have HB := Kp.mk (((Below.refl _ w).alloc (Nat.le_refl _) (.cells #[.int .i64 0] 3)).trans (ho.below (B := w.heap.size) (Nat.le_refl _) (by simp) (fun k e => by cases e)))
      cases hr : hsRun s.data.toList with
      | none =>
        rw [hr] at HX2
        clear hc ho hr
        go_wp2_with fail
        go_ret
        exact ⟨by rw [HX2.out]; rfl, HB.out⟩
      | some l =>
        have c1 := blk_cell (i := 0) (hc l hr) rfl
        rw [hr] at HX2
        clear hc ho hr
        by_cases hl0 : l = 0
        · subst hl0
          go_wp2_with fail
          go_ret
          exact ⟨by rw [HX2.out]; rfl, HB.out⟩
        · have q : ((l : Int) == 0) = false := beq_eq_false_iff_ne.2 (by omega)
          have HX3 := Kp.mk (show hsNamed s = false by rw [HX2.out, beq_eq_false_iff_ne]; intro e; cases e; exact hl0 rfl)
          have q2 : ¬ l = 0 := hl0
          clear HX2
          go_wp2_with fail
          go_ret
          exact ⟨by rw [HX3.out]; rfl, HB.out⟩
    · obtain rfl := hs_emp h0
      clear h0
      go_enter Try.func36, Try.ntmps36
      go_wp2_with fail
      refine (HC.out _).mono ?_
      rintro e w1 ⟨rfl, rfl⟩
      go_wp2_with fail
      go_ret
      exact ⟨rfl, (Below.refl _ _).alloc (Nat.le_refl _) _⟩
end Go.Proofs.Ytahehpgnemanmaa
