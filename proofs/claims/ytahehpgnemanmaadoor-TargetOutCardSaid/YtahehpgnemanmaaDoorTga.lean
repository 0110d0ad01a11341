/- Targets (layer 12): what a target is, as plain functions; readable, ported, split. -/
import Derived.Test.YtahehpgnemanmaaDoorHog
import Derived.Shelf.Strings.SlTrimAscii
namespace Go.Proofs.YtahehpgnemanmaaDoor
open Go.RowKit
set_option linter.unusedVariables false
set_option linter.unusedSimpArgs false

def tgSch : ByteArray := ⟨#[104, 116, 116, 112, 58, 47, 47]⟩
def tgDg : ByteArray := ⟨#[48, 49, 50, 51, 52, 53, 54, 55, 56, 57]⟩
def tgCon : ByteArray := ⟨#[67, 79, 78, 78, 69, 67, 84]⟩
def tgOpt : ByteArray := ⟨#[79, 80, 84, 73, 79, 78, 83]⟩
def tgP (c : UInt8) : Bool := decide (c.toNat ≠ 47) && decide (c.toNat ≠ 63)
def tgN (l : List UInt8) : Nat := (l.takeWhile tgP).length
theorem tgN_le : ∀ l : List UInt8, tgN l ≤ l.length
  | [] => Nat.le_refl _
  | b :: l => by
    have := tgN_le l
    unfold tgN at this ⊢
    rw [List.takeWhile_cons]
    split <;> simp <;> omega
theorem tgP_con (b : UInt8) : ([47, 63] : List UInt8).contains b = !tgP b := by
  have e : ∀ n : Nat, n < 256 → ([47, 63] : List UInt8).contains (UInt8.ofNat n) = !tgP (UInt8.ofNat n) := by decide +kernel
  have := e b.toNat (UInt8.toNat_lt b)
  simpa using this
theorem tg_idx : ∀ l : List UInt8, Lib.indexAny l [47, 63] = if tgN l < l.length then (tgN l : Int) else -1
  | [] => rfl
  | b :: l => by
    have ih := tg_idx l
    have hle := tgN_le l
    rw [Lib.indexAny, tgP_con]
    cases h : tgP b
    · have e : tgN (b :: l) = 0 := by unfold tgN; rw [List.takeWhile_cons, h]; rfl
      rw [e]; simp
    · have e : tgN (b :: l) = tgN l + 1 := by unfold tgN; rw [List.takeWhile_cons, h]; simp
      rw [e, ih]
      by_cases h2 : tgN l < l.length
      · simp only [h2, if_true]
        rw [if_neg (by simp), if_neg (by rw [beq_iff_eq]; omega), if_pos (by simp; exact h2)]
        omega
      · rw [if_neg h2, if_neg (by simp), if_pos (by decide), if_neg (by simp; omega)]
/-- What the run over the octets of an authority comes to. -/
theorem tgN_of {l : List UInt8} {k : Nat} (hk : k ≤ l.length) (h1 : ∀ (j : Nat) (h : j < l.length), j < k → tgP l[j] = true) (h2 : k = l.length ∨ ∃ h : k < l.length, tgP l[k] = false) : tgN l = k := by
  unfold tgN
  induction l generalizing k with
  | nil => simp at hk; subst hk; rfl
  | cons b l ih =>
    rw [List.takeWhile_cons]
    cases k with
    | zero =>
      rcases h2 with h2 | ⟨_, h2⟩
      · simp at h2
      · simp only [List.getElem_cons_zero] at h2; rw [h2]; rfl
    | succ k =>
      have hb := h1 0 (by simp) (by omega)
      simp only [List.getElem_cons_zero] at hb
      rw [hb, if_pos rfl, List.length_cons, ih (k := k) (by simpa using hk) (fun j h hj => by have := h1 (j + 1) (by simpa using h) (by omega); simpa using this) (by
        rcases h2 with h2 | ⟨h, h2⟩
        · left; simpa using h2
        · right; exact ⟨by simpa using h, by simpa using h2⟩)]
def tgAbs (s : ByteArray) : Bool := decide (7 ≤ s.size) && foldB (s.extract 0 7) tgSch
def tgCut (s : ByteArray) : Nat := 7 + tgN (s.data.toList.drop 7)
def tgAu (s : ByteArray) : ByteArray := s.extract 7 (tgCut s)
def tgPa (s : ByteArray) : ByteArray := s.extract (tgCut s) s.size
theorem tgCut_le {s : ByteArray} (h : 7 ≤ s.size) : 7 ≤ tgCut s ∧ tgCut s ≤ s.size := by
  have := tgN_le (s.data.toList.drop 7)
  rw [List.length_drop, ← ba_size] at this
  unfold tgCut
  omega
theorem tg_low : lowB tgSch = tgSch := by decide +kernel
theorem tg_fold (x : ByteArray) : foldB x tgSch = ((lowB x).toList == tgSch.toList) := by unfold foldB; rw [tg_low]
def tgOkA (s : ByteArray) : Bool := tgAbs s && (hsE (tgAu s) == 0)
/-- What of a text of octets to be seen is no target with any method. -/
def tgBad (s : ByteArray) : Bool := !visibleB s || s.data.toList.any (fun c => c.toNat == 35)
structure TgR where
  e : Int
  fm : Int
  au : ByteArray
  pa : ByteArray
def tgNo (e : Int) : TgR := ⟨e, 0, ⟨#[]⟩, ⟨#[]⟩⟩
/-- P12.1. -/
def tgR (m s : ByteArray) : TgR :=
  if s.size = 0 then tgNo 2 else if tgBad s = true then tgNo 11 else if m = tgCon then (if hsE s = 0 ∧ hsHas s = true then ⟨0, 3, s, ⟨#[]⟩⟩ else tgNo 11)
  else if bt s 0 = 47 then ⟨0, 1, ⟨#[]⟩, s⟩ else if s = ⟨#[42]⟩ ∧ m = tgOpt then ⟨0, 4, ⟨#[]⟩, ⟨#[]⟩⟩ else if tgOkA s = true then ⟨0, 2, tgAu s, tgPa s⟩ else tgNo 11
/-- P12.2: a target's text, and what of it goes to an origin. -/
def tgTx (fm : Int) (au pa : ByteArray) : ByteArray := if fm = 1 then pa else if fm = 2 then tgSch ++ au ++ pa else if fm = 3 then au else if fm = 4 then ⟨#[42]⟩ else ⟨#[]⟩
def tgOut (m : ByteArray) (fm : Int) (au pa : ByteArray) : ByteArray := if fm ≠ 2 then tgTx fm au pa else if pa.size = 0 ∧ m = tgOpt then ⟨#[42]⟩ else if 0 < pa.size ∧ bt pa 0 = 47 then pa else ⟨#[47]⟩ ++ pa

/-! ### A port of its own -/
def tgLeft (s : ByteArray) : ByteArray := ⟨(Lib.trimRightS s.data.toList tgDg.data.toList).toArray⟩
theorem tgLeft_list (s : ByteArray) : (tgLeft s).data.toList = Lib.trimRightS s.data.toList tgDg.data.toList := rfl
theorem tgDg_con (b : UInt8) : tgDg.data.toList.contains b = hsDig b.toNat := by
  have e : ∀ n : Nat, n < 256 → tgDg.data.toList.contains (UInt8.ofNat n) = hsDig n := by decide +kernel
  have := e b.toNat (UInt8.toNat_lt b)
  simpa using this
def tgSuf (s : ByteArray) : Bool := Lib.hasSuffix s.data.toList (⟨#[58]⟩ : ByteArray).data.toList
theorem tgSuf_snoc (r : List UInt8) (c : UInt8) (s : ByteArray) (h : s.data.toList = r ++ [c]) : tgSuf s = (c.toNat == 58) := by
  have e : Lib.hasSuffix (r ++ [c]) (⟨#[58]⟩ : ByteArray).data.toList = ((58 : UInt8) == c) := by simp [Lib.hasSuffix, List.isSuffixOf, List.isPrefixOf]
  unfold tgSuf
  rw [h, e, Bool.eq_iff_iff, beq_iff_eq, beq_iff_eq]
  constructor
  · rintro rfl; rfl
  · intro h; exact (UInt8.toNat_inj.1 (show c.toNat = (58 : UInt8).toNat from h)).symm
theorem tgSuf_nil (s : ByteArray) (h : s.data.toList = []) : tgSuf s = false := by unfold tgSuf; rw [h]; rfl
theorem trimR_pre (cs : List UInt8) (l : List UInt8) : ∃ q, l = Lib.trimRightS l cs ++ q := by
  unfold Lib.trimRightS
  obtain ⟨p, h1, _, _⟩ := dropWhile_part (cs.contains ·) l.reverse
  refine ⟨p.reverse, ?_⟩
  have := congrArg List.reverse h1
  rw [List.reverse_reverse, List.reverse_append] at this
  exact this
theorem tg_ported {s : ByteArray} (h : hsE s = 0) : (decide (tgLeft s ≠ s) && tgSuf (tgLeft s)) = hsHas s := by
  obtain ⟨h0, hn, hd⟩ := hsE_named h
  cases hh : hsHas s
  · have hnm : hsNamed s = true := by unfold hsName at hn; rw [hh, if_neg (by simp)] at hn; exact hn
    by_cases hl : bt s 0 = 91
    · obtain ⟨q1, q2, q3⟩ := (hsNamed_lit h0 hl).1 hnm
      have e : tgLeft s = s := ba_ext (by
        rw [tgLeft_list, Lib.trimRightS_take s.data.toList tgDg.data.toList s.size (by rw [← ba_size]; omega) (fun j b hj hb => by
          have := (List.getElem?_eq_some_iff.1 hb).1
          rw [← ba_size] at this; omega) (fun b _ hb => by
          obtain ⟨hj, he⟩ := List.getElem?_eq_some_iff.1 hb
          rw [tgDg_con, ← he, bt_list s (s.size - 1) (by omega), q2]; rfl)]
        exact List.take_of_length_le (by rw [← ba_size]; omega))
      rw [e]; simp
    · have hr := ((hsNamed_nm (.inr hl)).1 hnm).2
      have hfull : s.data.toList.take s.size = s.data.toList := List.take_of_length_le (by rw [← ba_size]; omega)
      have hf := hsRun_free (s := s) (k := s.size) (Nat.le_refl _) (by rw [hfull, hr]; simp)
      have : tgSuf (tgLeft s) = false := by
        rcases List.eq_nil_or_concat (tgLeft s).data.toList with e | ⟨r, c, e⟩
        · exact tgSuf_nil _ e
        · rw [List.concat_eq_append] at e
          rw [tgSuf_snoc r c _ e, beq_eq_false_iff_ne]
          obtain ⟨q, hq⟩ := trimR_pre tgDg.data.toList s.data.toList
          rw [← tgLeft_list, e] at hq
          have hm : c ∈ s.data.toList := by rw [hq]; simp
          obtain ⟨j, hj, hje⟩ := List.getElem_of_mem hm
          have hj2 : j < s.size := by rw [ba_size]; exact hj
          rw [← hje, bt_list s j hj2]
          exact (hf j hj2).1
      rw [this, Bool.and_false]
  · obtain ⟨hd1, _⟩ := hd hh
    have hlt : hsBra s < hsCol s := of_decide_eq_true hh
    have hb1 := (hsBra_spec s).1
    rcases last_spec s 58 with ⟨e, _⟩ | ⟨c, c1, c2, c3, _⟩
    · have : hsCol s = -1 := e; omega
    · have hc : hsCol s = c := c2
      have hnu : hsNum s = hsFrom s (c + 1) := by unfold hsNum; rw [if_pos hh, hc, Int.toNat_natCast]
      rw [hnu] at hd1
      obtain ⟨d1, d2⟩ := digs_iff.1 hd1
      rw [hsFrom_size] at d1
      have e : tgLeft s = hsUp s (c + 1) := ba_ext (by
        rw [tgLeft_list, hsUp_list, Lib.trimRightS_take s.data.toList tgDg.data.toList (c + 1) (by rw [← ba_size]; omega) (fun j b hj hb => by
          obtain ⟨hjl, he⟩ := List.getElem?_eq_some_iff.1 hb
          have hj2 : j < s.size := by rw [ba_size]; exact hjl
          have := d2 (j - (c + 1)) (by rw [hsFrom_size]; omega)
          rw [hsFrom_bt s (c + 1) _ (by omega), show c + 1 + (j - (c + 1)) = j by omega] at this
          rw [tgDg_con, ← he, bt_list s j hj2, hsDig_dig]
          exact decide_eq_true this) (fun b _ hb => by
          obtain ⟨hjl, he⟩ := List.getElem?_eq_some_iff.1 hb
          rw [tgDg_con, ← he, bt_list s (c + 1 - 1) (by omega), show c + 1 - 1 = c by omega, c3]; rfl)])
      have hz := hsUp_size s (c + 1) (by omega)
      have hne : tgLeft s ≠ s := fun q => by
        rw [e] at q
        have := congrArg ByteArray.size q
        omega
      have hs2 : tgSuf (tgLeft s) = true := by
        rw [e, tgSuf_snoc (s.data.toList.take c) s[c] _ (by rw [hsUp_list, take_snoc s c c1]), bt_at s c c1, c3]; rfl
      rw [decide_eq_true hne, hs2]; rfl
theorem tgDg_asc : ∀ (j : Nat) (b : UInt8), tgDg.data.toList[j]? = some b → b.toNat < 128 := fun j b h => by
  have hm := List.mem_of_getElem? h
  have e : ∀ b ∈ tgDg.data.toList, b.toNat < 128 := by decide +kernel
  exact e b hm
theorem tg_trim_any (s : ByteArray) (w : World) (hs : s.size ≤ 1000000) : Calls Tryd.prog 67 #[.string s, .string ⟨#[48, 49, 50, 51, 52, 53, 54, 55, 56, 57]⟩] w fun e w' => e = .returned (.string (tgLeft s)) ∧ Below w.heap.size w w' :=
  Any.strings_TrimRight_laid Tryd.lays162 (by kernel_rfl) s tgDg w (by omega) (by decide) tgDg_asc
theorem tg_suf_any (s : ByteArray) (w : World) (hs : s.size ≤ 1000000) : Calls Tryd.prog 68 #[.string s, .string ⟨#[58]⟩] w fun e w' => e = .returned (.bool (tgSuf s)) ∧ w = w' :=
  (Tryd.strings_HasSuffix s ⟨#[58]⟩ w (by omega)).mono fun _ _ h => ⟨h.1, h.2.symm⟩
set_option maxRecDepth 100000 in
set_option maxHeartbeats 1000000 in
theorem tg_readable_any (s : ByteArray) (w : World) (hs : s.size ≤ 1000000) : Calls Tryd.prog 66 #[.string s] w fun e w' => e = .returned (.bool (hsE s == 0)) ∧ Below w.heap.size w w' := by
  have HD := Kp.mk (show hsRet s = .tuple #[.string (hsN s), .int .i64 (hsP s), .int .i64 (hsE s)] from rfl)
  generalize hsN s = N at *
  generalize hsP s = p at *
  generalize hsE s = E at *
  go_enter Tryd.func66, Tryd.ntmps66
  go_wp2_with fail
  refine (hs_parse_any s _ hs).mono ?_
  rintro e w1 ⟨rfl, hb⟩
  rw [HD.out]
  have HB := Kp.mk hb
  clear hb
  go_wp2_with fail
  go_ret
  exact ⟨rfl, HB.out⟩
theorem tgLeft_size (s : ByteArray) : (tgLeft s).size ≤ s.size := by
  obtain ⟨q, hq⟩ := trimR_pre tgDg.data.toList s.data.toList
  rw [ba_size, ba_size, hq, tgLeft_list]
  simp
theorem neq_lists {a b : ByteArray} : (!(a.toList == b.toList)) = decide (a ≠ b) := by
  show (a.toList != b.toList) = decide (a ≠ b)
  rw [Bool.eq_iff_iff, bne_iff_ne, decide_eq_true_eq]
  constructor
  · intro h e; exact h (by rw [e])
  · intro h e
    exact h (ba_ext (by rw [← ByteArray.toList_eq, ← ByteArray.toList_eq, e]))
set_option maxRecDepth 100000 in
set_option maxHeartbeats 1000000 in
theorem tg_ported_any (s : ByteArray) (w : World) (hs : s.size ≤ 1000000) : Calls Tryd.prog 33 #[.string s] w fun e w' => e = .returned (.bool (decide (hsE s = 0 ∧ hsHas s = true))) ∧ Below w.heap.size w w' := by
  have hP := @tg_ported s
  have HR := Kp.mk (fun w => tg_readable_any s w hs)
  have hz := tgLeft_size s
  have HT := Kp.mk (fun w => tg_trim_any s w hs)
  have HS := Kp.mk (fun w => tg_suf_any (tgLeft s) w (by omega))
  have HN := Kp.mk (neq_lists (a := tgLeft s) (b := s))
  have HV := Kp.mk (show decide (hsE s = 0 ∧ hsHas s = true) = (decide (tgLeft s ≠ s) && tgSuf (tgLeft s) && (hsE s == 0)) by
    by_cases h : hsE s = 0
    · rw [hP h, h, Bool.eq_iff_iff]; simp
    · rw [show (hsE s == 0) = false from beq_eq_false_iff_ne.2 h, Bool.and_false, decide_eq_false (fun q => h q.1)])
  clear hP
  rw [show decide (tgLeft s ≠ s) = !((tgLeft s).toList == s.toList) from HN.out.symm] at HV
  generalize tgSuf (tgLeft s) = bs at *
  generalize tgLeft s = L at *
  generalize (hsE s == 0) = br at *
  generalize decide (hsE s = 0 ∧ hsHas s = true) = P at *
  go_enter Tryd.func33, Tryd.ntmps33
  go_wp2_with fail
  refine (HT.out _).mono ?_
  rintro e w1 ⟨rfl, hb⟩
  have HB := Kp.mk hb
  clear hb HN
  cases hq : (L.toList == s.toList)
  · rw [hq] at HV
    cases bs
    · have HV2 := Kp.mk (show P = false from HV.out)
      go_wp2_with fail
      refine (HS.out _).mono ?_
      rintro e w2 ⟨rfl, rfl⟩
      go_wp2_with fail
      go_ret
      exact ⟨by rw [HV2.out]; rfl, HB.out⟩
    · have HV2 := Kp.mk (show P = br from HV.out)
      go_wp2_with fail
      refine (HS.out _).mono ?_
      rintro e w2 ⟨rfl, rfl⟩
      go_wp2_with fail
      refine (HR.out _).mono ?_
      rintro e w2 ⟨rfl, hb⟩
      have HB2 := Kp.mk (HB.out.trans (hb.mono HB.out.size))
      clear hb
      go_wp2_with fail
      go_ret
      exact ⟨by rw [HV2.out]; rfl, HB2.out⟩
  · rw [hq] at HV
    have HV2 := Kp.mk (show P = false from HV.out)
    go_wp2_with fail
    go_ret
    exact ⟨by rw [HV2.out]; rfl, HB.out⟩
theorem tg_any (s : ByteArray) (w : World) (hs : s.size ≤ 1000000) (ha : AscS s) : Calls Tryd.prog 44 #[.string s, .string ⟨#[47, 63]⟩] w fun e w' => e = .returned (.int .i64 (if tgN s.data.toList < s.size then (tgN s.data.toList : Int) else -1)) ∧ Below w.heap.size w w' := by
  refine (Tryd.strings_IndexAny_laid s ⟨#[47, 63]⟩ w (by omega) (by decide) (fun j b h => asc_mem ha (List.mem_of_getElem? h)) (fun j b h => ?_)).mono ?_
  · have hm := List.mem_of_getElem? h
    have e : ∀ b ∈ (⟨#[47, 63]⟩ : ByteArray).data.toList, b.toNat < 128 := by decide +kernel
    exact e b hm
  · rintro e w' ⟨rfl, hb⟩
    refine ⟨?_, hb⟩
    rw [show (⟨#[47, 63]⟩ : ByteArray).data.toList = [47, 63] from rfl, tg_idx, ba_size s]
def tgSpl (s : ByteArray) : Value := if tgAbs s = true then .tuple #[.string (tgAu s), .string (tgPa s), .bool (hsE (tgAu s) == 0)] else .tuple #[.string ⟨#[]⟩, .string ⟨#[]⟩, .bool false]
set_option maxRecDepth 100000 in
set_option maxHeartbeats 2000000 in
theorem tg_split_any (s : ByteArray) (w : World) (hs : s.size ≤ 1000000) (ha : AscS s) : Calls Tryd.prog 32 #[.string s] w fun e w' => e = .returned (tgSpl s) ∧ Below w.heap.size w w' := by
  have HF := Kp.mk (fun w => oct_fold_any (s.extract 0 7) tgSch w (by rw [ByteArray.size_extract]; omega) (by decide))
  by_cases h7 : 7 ≤ s.size
  · have q7 : ¬ (s.size : Int) < 7 := by omega
    have q8 : (7 : Int) ≤ (s.size : Int) := by omega
    cases hf : foldB (s.extract 0 7) tgSch
    · rw [hf] at HF
      have HV := Kp.mk (show tgSpl s = .tuple #[.string ⟨#[]⟩, .string ⟨#[]⟩, .bool false] by unfold tgSpl tgAbs; rw [hf, Bool.and_false]; rfl)
      clear hf
      go_enter Tryd.func32, Tryd.ntmps32
      go_wp2_with fail
      refine (HF.out _).mono ?_
      rintro e w1 ⟨rfl, hb⟩
      have HB := Kp.mk hb
      clear hb
      go_wp2_with fail
      go_ret3
      exact ⟨by rw [HV.out]; rfl, HB.out⟩
    · rw [hf] at HF
      have HV := Kp.mk (show tgSpl s = .tuple #[.string (tgAu s), .string (tgPa s), .bool (hsE (tgAu s) == 0)] by unfold tgSpl tgAbs; rw [hf, decide_eq_true h7]; rfl)
      have hX : (s.extract 7 s.size).data.toList = s.data.toList.drop 7 := by rw [Lib.extract_to_end]
      have hXs : (s.extract 7 s.size).size = s.size - 7 := by rw [ByteArray.size_extract]; omega
      have haX : AscS (s.extract 7 s.size) := fun j hj => by rw [ext_bt s 7 s.size j (by omega) (by omega)]; exact ha _ (by omega)
      have HI := Kp.mk (fun w => tg_any (s.extract 7 s.size) w (by omega) haX)
      have hcut : tgCut s = 7 + tgN (s.data.toList.drop 7) := rfl
      have hcl := tgCut_le h7
      rw [hX, hXs] at HI
      have HR := Kp.mk (fun w => tg_readable_any (tgAu s) w (by unfold tgAu; rw [ByteArray.size_extract]; omega))
      clear hf
      by_cases hlt : tgN (s.data.toList.drop 7) < s.size - 7
      · rw [if_pos hlt] at HI
        have e1 : (s.extract 7 s.size).extract 0 (tgN (s.data.toList.drop 7)) = tgAu s := ba_ext (by
          unfold tgAu
          simp only [Lib.extract_data, List.drop_zero, List.take_take, hcut]
          congr 1; omega)
        have e2 : (s.extract 7 s.size).extract (tgN (s.data.toList.drop 7)) (s.extract 7 s.size).size = tgPa s := ba_ext (by
          unfold tgPa
          rw [Lib.extract_to_end, Lib.extract_to_end, Lib.extract_to_end, List.drop_drop, hcut])
        rw [hXs] at e2
        generalize tgN (s.data.toList.drop 7) = n at *
        generalize tgAu s = AU at *
        generalize tgPa s = PA at *
        generalize (hsE AU == 0) = eb at *
        have g1 : (0 : Int) ≤ (n : Int) := by omega
        have g2 : (n : Int) ≤ ((s.extract 7 s.size).size : Int) := by rw [hXs]; omega
        have g3 : ¬ (n : Int) < 0 := by omega
        have E1 := Kp.mk e1
        have E2 := Kp.mk e2
        have XS := Kp.mk hXs
        clear e1 e2 hX hcut hlt hXs haX hcl
        generalize hY : s.extract 7 s.size = Y at *
        go_enter Tryd.func32, Tryd.ntmps32
        go_wp2_with fail
        refine (HF.out _).mono ?_
        rintro e w1 ⟨rfl, hb⟩
        have HB := Kp.mk hb
        clear hb
        go_wp2_with fail
        refine (HI.out _).mono ?_
        rintro e w2 ⟨rfl, hb⟩
        have HB2 := Kp.mk (HB.out.trans (hb.mono HB.out.size))
        clear hb
        go_wp2_with fail
        go_quiet (fail)
        have HB3 := Kp.mk (HB2.out.trans ((gdrewN w2 nq).mono HB2.out.size))
        generalize w2.drewN nq = w3 at *
        have hys := XS.out
        rw [E1.out, hys, E2.out]
        clear hys hY
        go_wp2_with fail
        refine (HR.out _).mono ?_
        rintro e w4 ⟨rfl, hb⟩
        have HB4 := Kp.mk (HB3.out.trans (hb.mono HB3.out.size))
        clear hb
        go_wp2_with fail
        go_ret3
        exact ⟨by rw [HV.out]; rfl, HB4.out⟩
      · rw [if_neg hlt] at HI
        have hnl := tgN_le (s.data.toList.drop 7)
        rw [List.length_drop, ← ba_size] at hnl
        have hce : tgCut s = s.size := by omega
        have e1 : s.extract 7 s.size = tgAu s := by unfold tgAu; rw [hce]
        have e2 : tgPa s = ⟨#[]⟩ := hs_emp (by unfold tgPa; rw [hce, ByteArray.size_extract]; omega)
        rw [e2] at HV
        rw [e1] at HI
        generalize tgAu s = AU at *
        generalize (hsE AU == 0) = eb at *
        have E1 := Kp.mk e1
        clear e1 e2 hX hXs haX hce hcl hnl hcut hlt
        go_enter Tryd.func32, Tryd.ntmps32
        go_wp2_with fail
        refine (HF.out _).mono ?_
        rintro e w1 ⟨rfl, hb⟩
        have HB := Kp.mk hb
        clear hb
        go_wp2_with fail
        rw [E1.out]
        refine (HI.out _).mono ?_
        rintro e w2 ⟨rfl, hb⟩
        have HB2 := Kp.mk (HB.out.trans (hb.mono HB.out.size))
        clear hb
        go_wp2_with fail
        refine (HR.out _).mono ?_
        rintro e w4 ⟨rfl, hb⟩
        have HB4 := Kp.mk (HB2.out.trans (hb.mono HB2.out.size))
        clear hb
        go_wp2_with fail
        go_ret3
        exact ⟨by rw [HV.out]; rfl, HB4.out⟩
  · have q7 : (s.size : Int) < 7 := by omega
    have HV := Kp.mk (show tgSpl s = .tuple #[.string ⟨#[]⟩, .string ⟨#[]⟩, .bool false] by unfold tgSpl tgAbs; rw [decide_eq_false h7]; rfl)
    go_enter Tryd.func32, Tryd.ntmps32
    go_wp2_with fail
    go_ret3
    exact ⟨by rw [HV.out]; rfl, Below.refl _ _⟩
end Go.Proofs.YtahehpgnemanmaaDoor
