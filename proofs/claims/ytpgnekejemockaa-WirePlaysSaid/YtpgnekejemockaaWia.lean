/- The document's link and peer within the law's desk (layer 42). Made by bin/mkwia.py. -/
import Derived.Test.YtpgnekejemockaaLkb
import Derived.Test.YtpgnekejemockaaQug
namespace Go.Proofs.Ytpgnekejemockaa
open Go.RowKit
set_option linter.unusedVariables false
set_option linter.unusedSimpArgs false

/-- What stands ahead of the document's link: the two pointers, the document's peer. -/
structure Ld where
  wp : Value
  kp : Value
  L : ByteArray
  many : Int
  en : Bool
  took : ByteArray
/-- The desk lies in block c. -/
structure RY (c : Nat) (Z : Ld) (M : Nat) (S O : List UInt8) (e0 e1 : Bool) (w : World) : Prop where
  blk : w.heap[c]? = some (.cells #[Z.wp, Z.kp, .string Z.L, .int .i64 Z.many, .bool Z.en, .string Z.took, .string (oB S), .string (oB O), .int .i64 M, .bool e0, .bool e1] 74 (0, 0))
theorem RY.kept {c M : Nat} {Z : Ld} {S O : List UInt8} {e0 e1 : Bool} {w w' : World} (h : RY c Z M S O e0 e1 w) (hb : w'.heap[c]? = w.heap[c]?) : RY c Z M S O e0 e1 w' := ⟨hb.trans h.blk⟩
def RYTo (c : Nat) (Z : Ld) (M : Nat) (S O : List UInt8) (e0 e1 : Bool) (w w' : World) : Prop := RY c Z M S O e0 e1 w' ∧ Onl c none w w'
theorem ba_ext2 {a b : ByteArray} (h : a.data.toList = b.data.toList) : a = b := by
  cases a with | mk d => cases b with | mk d2 => simp at h; rw [h]
theorem lwrap_id {x : Int} (h1 : -9223372036854775808 ≤ x) (h2 : x < 9223372036854775808) : IntKind.i64.wrap x = x := by
  simp [IntKind.wrap, IntKind.signed, IntKind.bits, wrap64]
  split <;> omega
theorem ry_give (c : Nat) (Z : Ld) (M : Nat) (S O : List UInt8) (e0 e1 : Bool) (s : ByteArray) (w : World) (h : RY c Z M S O e0 e1 w) (hM : M ≤ 100000) (hS : S.length ≤ M) (hs : s.size ≤ 100000) :
    Calls Try.prog 90 #[.pointer (some ⟨c, 6, none⟩), .string s] w fun e w' => e = .returned (.int .i64 (giveN e0 e1 M S s : Nat)) ∧ RYTo c Z M (S ++ s.data.toList.take (giveN e0 e1 M S s)) O e0 e1 w w' := by
  have H := Kp.mk h
  have c0 := blk_cell (i := 6) h.blk rfl
  have c2 := blk_cell (i := 8) h.blk rfl
  have c3 := blk_cell (i := 9) h.blk rfl
  have c4 := blk_cell (i := 10) h.blk rfl
  have f0 := blk_free (i := 6) h.blk
  clear h
  by_cases hz : e0 = true ∨ e1 = true
  · have HG := Kp.mk (show giveN e0 e1 M S s = 0 by unfold giveN; rw [if_pos hz])
    have hfin : RYTo c Z M (S ++ s.data.toList.take (giveN e0 e1 M S s)) O e0 e1 w w := by rw [HG.out, List.take_zero, List.append_nil]; exact ⟨H.out, Onl.refl _ _ _⟩
    have HFI := Kp.mk hfin
    clear hfin
    cases e0
    · cases e1
      · simp at hz
      · clear hz
        go_enter Try.func90, Try.ntmps90
        go_wp2_with fail
        try go_quiet (fail)
        try go_wp2_with fail
        go_ret
        exact ⟨by rw [HG.out]; rfl, HFI.out.1.kept rfl, by first | exact HFI.out.2 | exact HFI.out.2.drewN _⟩
    · clear hz
      go_enter Try.func90, Try.ntmps90
      go_wp2_with fail
      try go_quiet (fail)
      try go_wp2_with fail
      go_ret
      exact ⟨by rw [HG.out]; rfl, HFI.out.1.kept rfl, by first | exact HFI.out.2 | exact HFI.out.2.drewN _⟩
  · obtain rfl : e0 = false := by cases e0; rfl; exact absurd (.inl rfl) hz
    obtain rfl : e1 = false := by cases e1; rfl; exact absurd (.inr rfl) hz
    have HG := Kp.mk (show giveN false false M S s = min s.size (M - S.length) from rfl)
    clear hz
    have hsz := oB_size S
    have HX := Kp.mk (show oB S ++ s.extract 0 (min s.size (M - S.length)) = oB (S ++ s.data.toList.take (min s.size (M - S.length))) from ba_ext2 (by
      rw [cat_app, oB_list, oB_list, Lib.extract_data, List.drop_zero, Nat.sub_zero]))
    rw [HG.out]
    have hway : (s.size ≤ M - S.length ∧ min s.size (M - S.length) = s.size) ∨ (M - S.length < s.size ∧ min s.size (M - S.length) = M - S.length) := by omega
    have HSZ := Kp.mk hsz
    have HOn := Kp.mk (Onl.refl c none w)
    have hx : (oB S).size ≤ 100000 := by omega
    have hx2 : (oB S).size ≤ M := by omega
    have HMS := Kp.mk (show ((M - S.length : Nat) : Int) = (M : Int) - ((oB S).size : Int) by omega)
    have hw9 : IntKind.i64.wrap ((M : Int) - ((oB S).size : Int)) = (M : Int) - ((oB S).size : Int) := lwrap_id (by omega) (by omega)
    have hw8 : (0 : Int) ≤ (M : Int) - ((oB S).size : Int) := by omega
    generalize hxx : oB S = x at *
    have HXX := Kp.mk hxx
    clear hxx hsz
    rcases hway with ⟨h1, h2⟩ | ⟨h1, h2⟩
    · rw [h2] at HX ⊢
      have h3 : ¬ ((M : Int) - (x.size : Int) < (s.size : Int)) := by have := HMS.out; omega
      have h4 : (s.size : Int) ≤ (M : Int) - (x.size : Int) := by omega
      have HXS := Kp.mk (show x ++ s = oB (S ++ s.data.toList.take s.size) from by
        rw [← HX.out]; congr 1; exact ba_ext2 (by rw [Lib.extract_data, List.drop_zero, List.take_of_length_le (by rw [← ba_size']; omega)]))
      clear h2 h1
      go_enter Try.func90, Try.ntmps90
      go_wp2_with fail
      go_region
      go_wp2_with fail
      go_region
      go_wp2_with fail
      go_ret
      refine ⟨rfl, ⟨?_⟩, (HOn.out.setCell _ _).drewN 2⟩
      rw [← HXS.out]
      exact (blk_set H.out.blk _).trans (by first | rfl | simp)
    · rw [h2] at HX ⊢
      have h3 : (M : Int) - (x.size : Int) < (s.size : Int) := by have := HMS.out; omega
      have HZ := Kp.mk HMS.out
      obtain ⟨u, hu⟩ : ∃ u : Nat, u = M - S.length := ⟨_, rfl⟩
      rw [← hu] at HX HMS ⊢
      have h5 := HMS.out
      have h6 : u ≤ s.size := by omega
      have h7 : (u : Int) ≤ (s.size : Int) := by omega
      rw [← h5] at h3 hw8 hw9
      have h8 : (M : Int) - (x.size : Int) = (u : Int) := h5.symm
      clear h2 h1 HZ hu h5
      go_enter Try.func90, Try.ntmps90
      go_wp2_with fail
      go_region
      go_wp2_with fail
      go_region
      go_wp2_with fail
      go_ret
      refine ⟨rfl, ⟨?_⟩, (HOn.out.setCell _ _).drewN 2⟩
      rw [← HX.out]
      exact (blk_set H.out.blk _).trans (by first | rfl | simp)
theorem ry_use (c : Nat) (Z : Ld) (M : Nat) (S O : List UInt8) (e0 e1 : Bool) (n : Int) (w : World) (h : RY c Z M S O e0 e1 w) (hS : S.length ≤ 100000) :
    Calls Try.prog 65 #[.pointer (some ⟨c, 6, none⟩), .int .i64 n] w fun e w' => e = .returned (.tuple #[]) ∧ RYTo c Z M (S.drop n.toNat) O e0 e1 w w' := by
  have H := Kp.mk h
  have c0 := blk_cell (i := 6) h.blk rfl
  have f0 := blk_free (i := 6) h.blk
  clear h
  have hsz := oB_size S
  have HD := Kp.mk (show S.drop n.toNat = S.drop (min n.toNat S.length) by
    by_cases h9 : n.toNat ≤ S.length
    · rw [Nat.min_eq_left h9]
    · rw [List.drop_of_length_le (by omega), List.drop_of_length_le (by omega)])
  have HE := Kp.mk (extr_oB S (min n.toNat S.length))
  have HN := Kp.mk (show ((min n.toNat S.length : Nat) : Int) = min (max n 0) ((oB S).size : Int) by omega)
  have hw : (0 ≤ n ∧ n ≤ ((oB S).size : Int)) ∨ (0 ≤ n ∧ ((oB S).size : Int) < n) ∨ n < 0 := by omega
  have hx : (oB S).size ≤ 100000 := by omega
  have hul : min n.toNat S.length ≤ (oB S).size := by omega
  generalize hxx : oB S = x at *
  generalize hv : min n.toNat S.length = u at *
  have HXX := Kp.mk hxx
  have HOn := Kp.mk (Onl.refl c none w)
  clear hxx hsz hv
  rw [HD.out]
  rcases hw with ⟨h1, h2⟩ | ⟨h1, h2⟩ | h1
  · obtain rfl : n = (u : Int) := by have := HN.out; omega
    have h3 : ¬ ((x.size : Int) < (u : Int)) := by omega
    go_enter Try.func65, Try.ntmps65
    go_wp2_with fail
    go_region
    go_wp2_with fail
    go_returns
    refine ⟨rfl, ⟨?_⟩, (HOn.out.drewN _).setCell _ _⟩
    rw [← HE.out]
    exact (blk_set (blk_drewN H.out.blk _) _).trans (by first | rfl | simp)
  · obtain rfl : u = x.size := by have := HN.out; omega
    have h3 : ¬ (n < 0) := by omega
    go_enter Try.func65, Try.ntmps65
    go_wp2_with fail
    go_region
    go_wp2_with fail
    go_returns
    refine ⟨rfl, ⟨?_⟩, (HOn.out.drewN _).setCell _ _⟩
    rw [← HE.out]
    exact (blk_set (blk_drewN H.out.blk _) _).trans (by first | rfl | simp)
  · obtain rfl : u = 0 := by have := HN.out; omega
    have h3 : ¬ (0 < n) := by omega
    go_enter Try.func65, Try.ntmps65
    go_wp2_with fail
    go_region
    go_wp2_with fail
    go_returns
    refine ⟨rfl, ⟨?_⟩, (HOn.out.drewN _).setCell _ _⟩
    rw [← HE.out]
    exact (blk_set (blk_drewN H.out.blk _) _).trans (by first | rfl | simp)
theorem ry_write (c : Nat) (Z : Ld) (M : Nat) (S O : List UInt8) (e0 e1 : Bool) (s : ByteArray) (w : World) (h : RY c Z M S O e0 e1 w) (hO : O.length ≤ 1000000) (hs : s.size ≤ 1000000) :
    Calls Try.prog 61 #[.pointer (some ⟨c, 6, none⟩), .string s] w fun e w' => e = .returned (.tuple #[]) ∧ RYTo c Z M S (wroteO e1 O s) e0 e1 w w' := by
  have H := Kp.mk h
  have c1 := blk_cell (i := 7) h.blk rfl
  have c4 := blk_cell (i := 10) h.blk rfl
  have f1 := blk_free (i := 7) h.blk
  clear h
  have hsz := oB_size O
  have HX := Kp.mk (show oB O ++ s = oB (O ++ s.data.toList) from ba_ext2 (by rw [cat_app, oB_list, oB_list]))
  have hx : (oB O).size ≤ 1000000 := by omega
  have HOn := Kp.mk (Onl.refl c none w)
  generalize hxx : oB O = x at *
  have HXX := Kp.mk hxx
  clear hxx hsz
  cases e1
  · have HW := Kp.mk (show wroteO false O s = O ++ s.data.toList from rfl)
    go_enter Try.func61, Try.ntmps61
    go_wp2_with fail
    try go_region
    try go_wp2_with fail
    go_returns
    refine ⟨rfl, ⟨?_⟩, by first | exact HOn.out.setCell _ _ | exact (HOn.out.drewN _).setCell _ _⟩
    rw [HW.out, ← HX.out, HXX.out.symm]
    exact (blk_set (by first | exact H.out.blk | exact blk_drewN H.out.blk _) _).trans (by first | rfl | simp)
  · have HW := Kp.mk (show wroteO true O s = O from rfl)
    go_enter Try.func61, Try.ntmps61
    go_wp2_with fail
    go_returns
    exact ⟨rfl, by rw [HW.out]; exact H.out, HOn.out⟩
theorem ry_take (c : Nat) (Z : Ld) (M : Nat) (S O : List UInt8) (e0 e1 : Bool) (n : Int) (w : World) (h : RY c Z M S O e0 e1 w) (hO : O.length ≤ 1000000) :
    Calls Try.prog 94 #[.pointer (some ⟨c, 6, none⟩), .int .i64 n] w fun e w' => e = .returned (.string (oB (O.take n.toNat))) ∧ RYTo c Z M S (O.drop n.toNat) e0 e1 w w' := by
  have H := Kp.mk h
  have c1 := blk_cell (i := 7) h.blk rfl
  have f1 := blk_free (i := 7) h.blk
  clear h
  have hsz := oB_size O
  have HD := Kp.mk (show O.drop n.toNat = O.drop (min n.toNat O.length) by
    by_cases h9 : n.toNat ≤ O.length
    · rw [Nat.min_eq_left h9]
    · rw [List.drop_of_length_le (by omega), List.drop_of_length_le (by omega)])
  have HT := Kp.mk (show O.take n.toNat = O.take (min n.toNat O.length) by
    by_cases h9 : n.toNat ≤ O.length
    · rw [Nat.min_eq_left h9]
    · rw [List.take_of_length_le (by omega), List.take_of_length_le (by omega)])
  have HE := Kp.mk (extr_oB O (min n.toNat O.length))
  have HF := Kp.mk (show (oB O).extract 0 (min n.toNat O.length) = oB (O.take (min n.toNat O.length)) from ba_ext2 (by rw [Lib.extract_data, oB_list, oB_list, List.drop_zero, Nat.sub_zero]))
  have HN := Kp.mk (show ((min n.toNat O.length : Nat) : Int) = min (max n 0) ((oB O).size : Int) by omega)
  have hw : (0 ≤ n ∧ n ≤ ((oB O).size : Int)) ∨ (0 ≤ n ∧ ((oB O).size : Int) < n) ∨ n < 0 := by omega
  have hx : (oB O).size ≤ 1000000 := by omega
  have hul : min n.toNat O.length ≤ (oB O).size := by omega
  generalize hxx : oB O = x at *
  generalize hv : min n.toNat O.length = u at *
  have HXX := Kp.mk hxx
  have HOn := Kp.mk (Onl.refl c none w)
  clear hxx hsz hv
  rw [HD.out, HT.out, ← HF.out]
  rcases hw with ⟨h1, h2⟩ | ⟨h1, h2⟩ | h1
  · obtain rfl : n = (u : Int) := by have := HN.out; omega
    have h3 : ¬ ((x.size : Int) < (u : Int)) := by omega
    go_enter Try.func94, Try.ntmps94
    go_wp2_with fail
    go_ret
    refine ⟨rfl, ⟨?_⟩, HOn.out.setCell _ _⟩
    rw [← HE.out]
    exact (blk_set H.out.blk _).trans (by first | rfl | simp)
  · obtain rfl : u = x.size := by have := HN.out; omega
    have h3 : ¬ (n < 0) := by omega
    go_enter Try.func94, Try.ntmps94
    go_wp2_with fail
    go_ret
    refine ⟨rfl, ⟨?_⟩, HOn.out.setCell _ _⟩
    rw [← HE.out]
    exact (blk_set H.out.blk _).trans (by first | rfl | simp)
  · obtain rfl : u = 0 := by have := HN.out; omega
    have h3 : ¬ (0 < n) := by omega
    go_enter Try.func94, Try.ntmps94
    go_wp2_with fail
    go_ret
    refine ⟨rfl, ⟨?_⟩, HOn.out.setCell _ _⟩
    have HE2 := HE.out
    first | (rw [← HE2]; exact (blk_set H.out.blk _).trans (by first | rfl | simp)) | (rw [HXX.out]; exact (blk_set H.out.blk _).trans (by first | rfl | simp))

/-! ### The document's peer: offset 2 -/
def sendN (en : Bool) (many : Nat) (s : ByteArray) : Nat := if en then 0 else min s.size (1048576 - many)
theorem ry_send (c : Nat) (Z : Ld) (M : Nat) (S O : List UInt8) (e0 e1 : Bool) (s : ByteArray) (m : Nat) (w : World) (h : RY c Z M S O e0 e1 w) (hZ : Z.many = (m : Int)) (hm : m ≤ 100000) (hL : Z.L.size ≤ 100000) (hs : s.size ≤ 1000) :
    Calls Try.prog 57 #[.pointer (some ⟨c, 2, none⟩), .string s] w fun e w' => e = .returned (.int .i64 (if Z.en then 0 else s.size : Nat)) ∧ RYTo c (if Z.en then Z else { Z with L := Z.L ++ s, many := ((m + s.size : Nat) : Int) }) M S O e0 e1 w w' := by
  have H := Kp.mk h
  have HOn := Kp.mk (Onl.refl c none w)
  obtain ⟨zw, zk, zL, zm, ze, zt⟩ := Z
  simp only at hZ hL
  subst hZ
  have c2 := blk_cell (i := 2) h.blk rfl
  have c3 := blk_cell (i := 3) h.blk rfl
  have c4 := blk_cell (i := 4) h.blk rfl
  have f2 := blk_free (i := 2) h.blk
  have f3 := blk_free (i := 3) h.blk
  clear h
  simp only at c2 c3 c4
  cases ze
  · have hE := Kp.mk (show s.extract 0 s.size = s from ba_ext2 (by rw [Lib.extract_data, List.drop_zero, Nat.sub_zero, List.take_of_length_le (by rw [← ba_size']; omega)]))
    have HM := Kp.mk (show min (s.size : Int) ((1048576 : Int) - (m : Int)) = (s.size : Int) by omega)
    have HEX := Kp.mk (show s.extract 0 (min (s.size : Int) ((1048576 : Int) - (m : Int))).toNat = s by rw [HM.out, Int.toNat_natCast]; exact hE.out)
    have t1 : (0 : Int) ≤ min (s.size : Int) ((1048576 : Int) - (m : Int)) := by omega
    have t2 : min (s.size : Int) ((1048576 : Int) - (m : Int)) ≤ (s.size : Int) := by omega
    have h3 : IntKind.i64.wrap ((1048576 : Int) - (m : Int)) = (1048576 : Int) - (m : Int) := lwrap_id (by omega) (by omega)
    have h4 : IntKind.i64.wrap ((m : Int) + min (s.size : Int) ((1048576 : Int) - (m : Int))) = (m : Int) + min (s.size : Int) ((1048576 : Int) - (m : Int)) := lwrap_id (by omega) (by omega)
    go_enter Try.func57, Try.ntmps57
    go_wp2_with fail
    go_region
    go_wp2_with fail
    go_ret
    refine ⟨rfl, ⟨?_⟩, by first | exact ((HOn.out.setCell _ _).setCell _ _).drewN 1 | exact ((HOn.out.setCell _ _).drewN _).setCell _ _ | exact ((HOn.out.drewN _).setCell _ _).setCell _ _ | exact (HOn.out.setCell _ _).setCell _ _⟩
    exact (blk_drewN (blk_set (blk_set H.out.blk _) _) 1).trans (by first | rfl | simp)
  · go_enter Try.func57, Try.ntmps57
    go_wp2_with fail
    go_ret
    exact ⟨rfl, H.out, HOn.out⟩

theorem giveN_le (e0 e1 : Bool) (M : Nat) (S : List UInt8) (s : ByteArray) : giveN e0 e1 M S s ≤ s.size := by
  unfold giveN
  split
  · exact Nat.zero_le _
  · omega
theorem emp_or (x : ByteArray) : (decide (x = ByteArray.empty) = true ∧ x.toList = [] ∧ x.toList.isEmpty = true) ∨ (decide (x = ByteArray.empty) = false ∧ ¬ (x.toList = []) ∧ x.toList.isEmpty = false) := by
  by_cases hx : x = ByteArray.empty
  · subst hx
    have : ByteArray.empty.toList = [] := by rw [ByteArray.toList_eq]; rfl
    exact .inl ⟨decide_eq_true rfl, this, by rw [this]; rfl⟩
  · have h1 : ¬ (x.toList = []) := fun e => hx (ba_ext2 (by rw [ByteArray.toList_eq] at e; rw [e]; rfl))
    refine .inr ⟨decide_eq_false hx, h1, ?_⟩
    cases hl : x.toList with
    | nil => exact absurd hl h1
    | cons c l => rfl
theorem ry_grant (c : Nat) (Z : Ld) (M : Nat) (S O : List UInt8) (e0 e1 : Bool) (n : Int) (w : World) (h : RY c Z M S O e0 e1 w) (hO : O.length ≤ 1000000) (hT : Z.took.size ≤ 1000000) :
    Calls Try.prog 63 #[.pointer (some ⟨c, 2, none⟩), .pointer (some ⟨c, 6, none⟩), .int .i64 n] w fun e w' => e = .returned (.int .i64 ((oB (O.take n.toNat)).size : Nat)) ∧
      RYTo c { Z with took := Z.took ++ oB (O.take n.toNat) } M S (O.drop n.toNat) e0 e1 w w' := by
  have hz : (oB (O.take n.toNat)).size ≤ 1000000 := by rw [oB_size, List.length_take]; omega
  obtain ⟨zw, zk, zL, zm, ze, zt⟩ := Z
  simp only at hT
  have HG := Kp.mk (ry_take c ⟨zw, zk, zL, zm, ze, zt⟩ M S O e0 e1 n w ⟨h.blk⟩ hO)
  clear h
  generalize oB (O.take n.toNat) = x at *
  go_enter Try.func63, Try.ntmps63
  go_wp2_with fail
  refine HG.out.mono ?_
  rintro e w1 ⟨rfl, h1, ho1⟩
  have H1 := Kp.mk h1
  have HO1 := Kp.mk ho1
  have k5 := blk_cell (i := 5) h1.blk rfl
  have j5 := blk_free (i := 5) h1.blk
  simp only at k5
  clear h1 ho1 HG
  go_wp2_with fail
  go_ret
  refine ⟨rfl, ⟨?_⟩, HO1.out.setCell _ _⟩
  exact (blk_set H1.out.blk _).trans (by first | rfl | simp)
end Go.Proofs.Ytpgnekejemockaa
