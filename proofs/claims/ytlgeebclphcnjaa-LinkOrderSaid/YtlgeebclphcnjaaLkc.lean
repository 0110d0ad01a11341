/- A link that is none, or plain; the document's link (layer 38). -/
import Derived.Test.YtlgeebclphcnjaaLkb
import Derived.Test.YtlgeebclphcnjaaQug
namespace Go.Proofs.Ytlgeebclphcnjaa
open Go.RowKit
set_option linter.unusedVariables false
set_option linter.unusedSimpArgs false

/-- None, or a plain one. -/
def LkNo (p : Value) (w : World) : Prop := p = .pointer none ∨ ∃ b, p = .pointer (some ⟨b, 0, none⟩) ∧ w.heap[b]? = some (.cells #[.pointer none, .slice none 0 0, .bool false, .bool false] 51 (0, 0))
theorem LkNo.below {p : Value} {w w' : World} (h : LkNo p w) (hb : Below w.heap.size w w') : LkNo p w' := by
  rcases h with h | ⟨b, h1, h2⟩
  · exact .inl h
  · exact .inr ⟨b, h1, (hb.block b (blk_lt h2)).trans h2⟩
theorem no_made (p : Value) (w : World) (h : LkNo p w) :
    Calls Try.prog 63 #[p] w fun e w' => e = .returned (.bool false) ∧ w = w' := by
  rcases h with rfl | ⟨b, rfl, h⟩
  · go_enter Try.func63, Try.ntmps63
    go_wp2_with fail
    go_ret
    exact ⟨rfl, rfl⟩
  · have c0 := blk_cell (i := 0) h rfl
    clear h
    go_enter Try.func63, Try.ntmps63
    go_wp2_with fail
    go_ret
    exact ⟨rfl, rfl⟩
theorem no_live (p : Value) (w : World) (h : LkNo p w) :
    Calls Try.prog 25 #[p] w fun e w' => e = .returned (.bool false) ∧ w = w' := by
  have H := Kp.mk h
  clear h
  go_enter Try.func25, Try.ntmps25
  go_wp2_with fail
  refine (no_made p _ H.out).mono ?_
  rintro e w1 ⟨rfl, rfl⟩
  go_wp2_with fail
  go_ret
  exact ⟨rfl, rfl⟩
theorem no_over (p : Value) (w : World) (h : LkNo p w) :
    Calls Try.prog 24 #[p] w fun e w' => e = .returned (.bool false) ∧ w = w' := by
  have H := Kp.mk h
  clear h
  go_enter Try.func24, Try.ntmps24
  go_wp2_with fail
  refine (no_made p _ H.out).mono ?_
  rintro e w1 ⟨rfl, rfl⟩
  go_wp2_with fail
  go_ret
  exact ⟨rfl, rfl⟩
theorem no_dry (p : Value) (w : World) (h : LkNo p w) :
    Calls Try.prog 21 #[p] w fun e w' => e = .returned (.bool false) ∧ w = w' := by
  have H := Kp.mk h
  clear h
  go_enter Try.func21, Try.ntmps21
  go_wp2_with fail
  refine (no_made p _ H.out).mono ?_
  rintro e w1 ⟨rfl, rfl⟩
  go_wp2_with fail
  go_ret
  exact ⟨rfl, rfl⟩
theorem no_waits (p : Value) (w : World) (h : LkNo p w) :
    Calls Try.prog 22 #[p] w fun e w' => e = .returned (.int .i64 0) ∧ w = w' := by
  have H := Kp.mk h
  clear h
  go_enter Try.func22, Try.ntmps22
  go_wp2_with fail
  refine (no_made p _ H.out).mono ?_
  rintro e w1 ⟨rfl, rfl⟩
  go_wp2_with fail
  go_ret
  exact ⟨rfl, rfl⟩
theorem no_left (p : Value) (w : World) (h : LkNo p w) :
    Calls Try.prog 20 #[p] w fun e w' => e = .returned (.string ⟨#[]⟩) ∧ w = w' := by
  have H := Kp.mk h
  clear h
  go_enter Try.func20, Try.ntmps20
  go_wp2_with fail
  refine (no_made p _ H.out).mono ?_
  rintro e w1 ⟨rfl, rfl⟩
  go_wp2_with fail
  go_ret
  exact ⟨rfl, rfl⟩
theorem no_end (p : Value) (w : World) (h : LkNo p w) :
    Calls Try.prog 26 #[p] w fun e w' => e = .returned (.tuple #[]) ∧ w = w' := by
  have H := Kp.mk h
  clear h
  go_enter Try.func26, Try.ntmps26
  go_wp2_with fail
  refine (no_made p _ H.out).mono ?_
  rintro e w1 ⟨rfl, rfl⟩
  go_wp2_with fail
  go_returns
  exact ⟨rfl, rfl⟩
theorem no_use (p : Value) (w : World) (h : LkNo p w) :
    Calls Try.prog 27 #[p, .int .i64 1] w fun e w' => e = .returned (.tuple #[]) ∧ w = w' := by
  have H := Kp.mk h
  clear h
  go_enter Try.func27, Try.ntmps27
  go_wp2_with fail
  refine (no_made p _ H.out).mono ?_
  rintro e w1 ⟨rfl, rfl⟩
  go_wp2_with fail
  go_returns
  exact ⟨rfl, rfl⟩
theorem no_shut (p : Value) (w : World) (h : LkNo p w) :
    Calls Try.prog 29 #[p] w fun e w' => e = .returned (.tuple #[]) ∧ w = w' := by
  have H := Kp.mk h
  clear h
  go_enter Try.func29, Try.ntmps29
  go_wp2_with fail
  refine (no_made p _ H.out).mono ?_
  rintro e w1 ⟨rfl, rfl⟩
  go_wp2_with fail
  go_returns
  exact ⟨rfl, rfl⟩
theorem no_write (p : Value) (w : World) (h : LkNo p w) :
    Calls Try.prog 28 #[p, .string ⟨#[97]⟩] w fun e w' => e = .returned (.tuple #[]) ∧ w = w' := by
  have H := Kp.mk h
  clear h
  go_enter Try.func28, Try.ntmps28
  go_wp2_with fail
  refine (no_live p _ H.out).mono ?_
  rintro e w1 ⟨rfl, rfl⟩
  go_wp2_with fail
  go_returns
  exact ⟨rfl, rfl⟩
theorem no_give (p : Value) (w : World) (h : LkNo p w) :
    Calls Try.prog 30 #[p, .string ⟨#[97]⟩] w fun e w' => e = .returned (.int .i64 0) ∧ w = w' := by
  have H := Kp.mk h
  clear h
  go_enter Try.func30, Try.ntmps30
  go_wp2_with fail
  refine (no_live p _ H.out).mono ?_
  rintro e w1 ⟨rfl, rfl⟩
  go_wp2_with fail
  go_ret
  exact ⟨rfl, rfl⟩
theorem no_take (p : Value) (w : World) (h : LkNo p w) :
    Calls Try.prog 31 #[p, .int .i64 5] w fun e w' => e = .returned (.string ⟨#[]⟩) ∧ w = w' := by
  have H := Kp.mk h
  clear h
  go_enter Try.func31, Try.ntmps31
  go_wp2_with fail
  refine (no_waits p _ H.out).mono ?_
  rintro e w1 ⟨rfl, rfl⟩
  go_wp2_with fail
  go_ret
  exact ⟨rfl, rfl⟩
theorem no_free (p : Value) (w : World) (h : LkNo p w) :
    Calls Try.prog 23 #[p] w fun e w' => e = .returned (.bool false) ∧ ∃ n, w' = w.drewN n := by
  have H := Kp.mk h
  clear h
  go_enter Try.func23, Try.ntmps23
  go_wp2_with fail
  go_quiet ((go_at_call 63; exact Calls.quiet_of_same ((no_made _ _ (H.out.below (gdrewN _ _))).mono fun _ _ h => ⟨h.1, h.2.symm⟩)))
  go_wp2_with fail
  go_ret
  exact ⟨rfl, _, rfl⟩

/-! ### The document's -/
/-- The document's link lies in block c. -/
structure RL (c M : Nat) (S O : List UInt8) (e0 e1 : Bool) (w : World) : Prop where
  blk : w.heap[c]? = some (.cells #[.string (oB S), .string (oB O), .int .i64 M, .bool e0, .bool e1] 39 (0, 0))
theorem RL.kept {c M : Nat} {S O : List UInt8} {e0 e1 : Bool} {w w' : World} (h : RL c M S O e0 e1 w) (hb : w'.heap[c]? = w.heap[c]?) : RL c M S O e0 e1 w' := ⟨hb.trans h.blk⟩
def RLTo (c M : Nat) (S O : List UInt8) (e0 e1 : Bool) (w w' : World) : Prop := RL c M S O e0 e1 w' ∧ Onl c none w w'
theorem ba_ext2 {a b : ByteArray} (h : a.data.toList = b.data.toList) : a = b := by
  cases a with | mk d => cases b with | mk d2 => simp at h; rw [h]
theorem lwrap_id {x : Int} (h1 : -9223372036854775808 ≤ x) (h2 : x < 9223372036854775808) : IntKind.i64.wrap x = x := by
  simp [IntKind.wrap, IntKind.signed, IntKind.bits, wrap64]
  split <;> omega
theorem rl_give (c M : Nat) (S O : List UInt8) (e0 e1 : Bool) (s : ByteArray) (w : World) (h : RL c M S O e0 e1 w) (hM : M ≤ 100000) (hS : S.length ≤ M) (hs : s.size ≤ 100000) :
    Calls Try.prog 59 #[.pointer (some ⟨c, 0, none⟩), .string s] w fun e w' => e = .returned (.int .i64 (giveN e0 e1 M S s : Nat)) ∧ RLTo c M (S ++ s.data.toList.take (giveN e0 e1 M S s)) O e0 e1 w w' := by
  have H := Kp.mk h
  have c0 := blk_cell (i := 0) h.blk rfl
  have c2 := blk_cell (i := 2) h.blk rfl
  have c3 := blk_cell (i := 3) h.blk rfl
  have c4 := blk_cell (i := 4) h.blk rfl
  have f0 := blk_free (i := 0) h.blk
  clear h
  by_cases hz : e0 = true ∨ e1 = true
  · have HG := Kp.mk (show giveN e0 e1 M S s = 0 by unfold giveN; rw [if_pos hz])
    have hfin : RLTo c M (S ++ s.data.toList.take (giveN e0 e1 M S s)) O e0 e1 w w := by rw [HG.out, List.take_zero, List.append_nil]; exact ⟨H.out, Onl.refl _ _ _⟩
    have HFI := Kp.mk hfin
    clear hfin
    cases e0
    · cases e1
      · simp at hz
      · clear hz
        go_enter Try.func59, Try.ntmps59
        go_wp2_with fail
        try go_quiet (fail)
        try go_wp2_with fail
        go_ret
        exact ⟨by rw [HG.out]; rfl, HFI.out.1.kept rfl, by first | exact HFI.out.2 | exact HFI.out.2.drewN _⟩
    · clear hz
      go_enter Try.func59, Try.ntmps59
      go_wp2_with fail
      try go_quiet (fail)
      try go_wp2_with fail
      go_ret
      exact ⟨by rw [HG.out]; rfl, HFI.out.1.kept rfl, by first | exact HFI.out.2 | exact HFI.out.2.drewN _⟩
  · obtain rfl : e0 = false := by cases e0; rfl; exact absurd (.inl rfl) hz
    obtain rfl : e1 = false := by cases e1; rfl; exact absurd (.inr rfl) hz
    have HG := Kp.mk (show giveN false false M S s = min s.size (M - S.length) from rfl)
    clear hz
    have hsz := oB_size S
    have HX := Kp.mk (show oB S ++ s.extract 0 (min s.size (M - S.length)) = oB (S ++ s.data.toList.take (min s.size (M - S.length))) from ba_ext2 (by
      rw [cat_app, oB_list, oB_list, Lib.extract_data, List.drop_zero, Nat.sub_zero]))
    rw [HG.out]
    have hway : (s.size ≤ M - S.length ∧ min s.size (M - S.length) = s.size) ∨ (M - S.length < s.size ∧ min s.size (M - S.length) = M - S.length) := by omega
    have HSZ := Kp.mk hsz
    have HOn := Kp.mk (Onl.refl c none w)
    have hx : (oB S).size ≤ 100000 := by omega
    have hx2 : (oB S).size ≤ M := by omega
    have HMS := Kp.mk (show ((M - S.length : Nat) : Int) = (M : Int) - ((oB S).size : Int) by omega)
    have hw9 : IntKind.i64.wrap ((M : Int) - ((oB S).size : Int)) = (M : Int) - ((oB S).size : Int) := lwrap_id (by omega) (by omega)
    have hw8 : (0 : Int) ≤ (M : Int) - ((oB S).size : Int) := by omega
    generalize hxx : oB S = x at *
    have HXX := Kp.mk hxx
    clear hxx hsz
    rcases hway with ⟨h1, h2⟩ | ⟨h1, h2⟩
    · rw [h2] at HX ⊢
      have h3 : ¬ ((M : Int) - (x.size : Int) < (s.size : Int)) := by have := HMS.out; omega
      have h4 : (s.size : Int) ≤ (M : Int) - (x.size : Int) := by omega
      have HXS := Kp.mk (show x ++ s = oB (S ++ s.data.toList.take s.size) from by
        rw [← HX.out]; congr 1; exact ba_ext2 (by rw [Lib.extract_data, List.drop_zero, List.take_of_length_le (by rw [← ba_size']; omega)]))
      clear h2 h1
      go_enter Try.func59, Try.ntmps59
      go_wp2_with fail
      go_region
      go_wp2_with fail
      go_region
      go_wp2_with fail
      go_ret
      refine ⟨rfl, ⟨?_⟩, (HOn.out.setCell _ _).drewN 2⟩
      rw [← HXS.out]
      exact (blk_set H.out.blk _).trans (by first | rfl | simp)
    · rw [h2] at HX ⊢
      have h3 : (M : Int) - (x.size : Int) < (s.size : Int) := by have := HMS.out; omega
      have HZ := Kp.mk HMS.out
      obtain ⟨u, hu⟩ : ∃ u : Nat, u = M - S.length := ⟨_, rfl⟩
      rw [← hu] at HX HMS ⊢
      have h5 := HMS.out
      have h6 : u ≤ s.size := by omega
      have h7 : (u : Int) ≤ (s.size : Int) := by omega
      rw [← h5] at h3 hw8 hw9
      have h8 : (M : Int) - (x.size : Int) = (u : Int) := h5.symm
      clear h2 h1 HZ hu h5
      go_enter Try.func59, Try.ntmps59
      go_wp2_with fail
      go_region
      go_wp2_with fail
      go_region
      go_wp2_with fail
      go_ret
      refine ⟨rfl, ⟨?_⟩, (HOn.out.setCell _ _).drewN 2⟩
      rw [← HX.out]
      exact (blk_set H.out.blk _).trans (by first | rfl | simp)
theorem rl_use (c M : Nat) (S O : List UInt8) (e0 e1 : Bool) (n : Int) (w : World) (h : RL c M S O e0 e1 w) (hS : S.length ≤ 100000) :
    Calls Try.prog 60 #[.pointer (some ⟨c, 0, none⟩), .int .i64 n] w fun e w' => e = .returned (.tuple #[]) ∧ RLTo c M (S.drop n.toNat) O e0 e1 w w' := by
  have H := Kp.mk h
  have c0 := blk_cell (i := 0) h.blk rfl
  have f0 := blk_free (i := 0) h.blk
  clear h
  have hsz := oB_size S
  have HD := Kp.mk (show S.drop n.toNat = S.drop (min n.toNat S.length) by
    by_cases h9 : n.toNat ≤ S.length
    · rw [Nat.min_eq_left h9]
    · rw [List.drop_of_length_le (by omega), List.drop_of_length_le (by omega)])
  have HE := Kp.mk (extr_oB S (min n.toNat S.length))
  have HN := Kp.mk (show ((min n.toNat S.length : Nat) : Int) = min (max n 0) ((oB S).size : Int) by omega)
  have hw : (0 ≤ n ∧ n ≤ ((oB S).size : Int)) ∨ (0 ≤ n ∧ ((oB S).size : Int) < n) ∨ n < 0 := by omega
  have hx : (oB S).size ≤ 100000 := by omega
  have hul : min n.toNat S.length ≤ (oB S).size := by omega
  generalize hxx : oB S = x at *
  generalize hv : min n.toNat S.length = u at *
  have HXX := Kp.mk hxx
  have HOn := Kp.mk (Onl.refl c none w)
  clear hxx hsz hv
  rw [HD.out]
  rcases hw with ⟨h1, h2⟩ | ⟨h1, h2⟩ | h1
  · obtain rfl : n = (u : Int) := by have := HN.out; omega
    have h3 : ¬ ((x.size : Int) < (u : Int)) := by omega
    go_enter Try.func60, Try.ntmps60
    go_wp2_with fail
    go_region
    go_wp2_with fail
    go_returns
    refine ⟨rfl, ⟨?_⟩, (HOn.out.drewN _).setCell _ _⟩
    rw [← HE.out]
    exact (blk_set (blk_drewN H.out.blk _) _).trans (by first | rfl | simp)
  · obtain rfl : u = x.size := by have := HN.out; omega
    have h3 : ¬ (n < 0) := by omega
    go_enter Try.func60, Try.ntmps60
    go_wp2_with fail
    go_region
    go_wp2_with fail
    go_returns
    refine ⟨rfl, ⟨?_⟩, (HOn.out.drewN _).setCell _ _⟩
    rw [← HE.out]
    exact (blk_set (blk_drewN H.out.blk _) _).trans (by first | rfl | simp)
  · obtain rfl : u = 0 := by have := HN.out; omega
    have h3 : ¬ (0 < n) := by omega
    go_enter Try.func60, Try.ntmps60
    go_wp2_with fail
    go_region
    go_wp2_with fail
    go_returns
    refine ⟨rfl, ⟨?_⟩, (HOn.out.drewN _).setCell _ _⟩
    rw [← HE.out]
    exact (blk_set (blk_drewN H.out.blk _) _).trans (by first | rfl | simp)
theorem rl_write (c M : Nat) (S O : List UInt8) (e0 e1 : Bool) (s : ByteArray) (w : World) (h : RL c M S O e0 e1 w) (hO : O.length ≤ 1000000) (hs : s.size ≤ 1000000) :
    Calls Try.prog 61 #[.pointer (some ⟨c, 0, none⟩), .string s] w fun e w' => e = .returned (.tuple #[]) ∧ RLTo c M S (wroteO e1 O s) e0 e1 w w' := by
  have H := Kp.mk h
  have c1 := blk_cell (i := 1) h.blk rfl
  have c4 := blk_cell (i := 4) h.blk rfl
  have f1 := blk_free (i := 1) h.blk
  clear h
  have hsz := oB_size O
  have HX := Kp.mk (show oB O ++ s = oB (O ++ s.data.toList) from ba_ext2 (by rw [cat_app, oB_list, oB_list]))
  have hx : (oB O).size ≤ 1000000 := by omega
  have HOn := Kp.mk (Onl.refl c none w)
  generalize hxx : oB O = x at *
  have HXX := Kp.mk hxx
  clear hxx hsz
  cases e1
  · have HW := Kp.mk (show wroteO false O s = O ++ s.data.toList from rfl)
    go_enter Try.func61, Try.ntmps61
    go_wp2_with fail
    try go_region
    try go_wp2_with fail
    go_returns
    refine ⟨rfl, ⟨?_⟩, by first | exact HOn.out.setCell _ _ | exact (HOn.out.drewN _).setCell _ _⟩
    rw [HW.out, ← HX.out, HXX.out.symm]
    exact (blk_set (by first | exact H.out.blk | exact blk_drewN H.out.blk _) _).trans (by first | rfl | simp)
  · have HW := Kp.mk (show wroteO true O s = O from rfl)
    go_enter Try.func61, Try.ntmps61
    go_wp2_with fail
    go_returns
    exact ⟨rfl, by rw [HW.out]; exact H.out, HOn.out⟩
theorem rl_take (c M : Nat) (S O : List UInt8) (e0 e1 : Bool) (n : Int) (w : World) (h : RL c M S O e0 e1 w) (hO : O.length ≤ 1000000) :
    Calls Try.prog 62 #[.pointer (some ⟨c, 0, none⟩), .int .i64 n] w fun e w' => e = .returned (.string (oB (O.take n.toNat))) ∧ RLTo c M S (O.drop n.toNat) e0 e1 w w' := by
  have H := Kp.mk h
  have c1 := blk_cell (i := 1) h.blk rfl
  have f1 := blk_free (i := 1) h.blk
  clear h
  have hsz := oB_size O
  have HD := Kp.mk (show O.drop n.toNat = O.drop (min n.toNat O.length) by
    by_cases h9 : n.toNat ≤ O.length
    · rw [Nat.min_eq_left h9]
    · rw [List.drop_of_length_le (by omega), List.drop_of_length_le (by omega)])
  have HT := Kp.mk (show O.take n.toNat = O.take (min n.toNat O.length) by
    by_cases h9 : n.toNat ≤ O.length
    · rw [Nat.min_eq_left h9]
    · rw [List.take_of_length_le (by omega), List.take_of_length_le (by omega)])
  have HE := Kp.mk (extr_oB O (min n.toNat O.length))
  have HF := Kp.mk (show (oB O).extract 0 (min n.toNat O.length) = oB (O.take (min n.toNat O.length)) from ba_ext2 (by rw [Lib.extract_data, oB_list, oB_list, List.drop_zero, Nat.sub_zero]))
  have HN := Kp.mk (show ((min n.toNat O.length : Nat) : Int) = min (max n 0) ((oB O).size : Int) by omega)
  have hw : (0 ≤ n ∧ n ≤ ((oB O).size : Int)) ∨ (0 ≤ n ∧ ((oB O).size : Int) < n) ∨ n < 0 := by omega
  have hx : (oB O).size ≤ 1000000 := by omega
  have hul : min n.toNat O.length ≤ (oB O).size := by omega
  generalize hxx : oB O = x at *
  generalize hv : min n.toNat O.length = u at *
  have HXX := Kp.mk hxx
  have HOn := Kp.mk (Onl.refl c none w)
  clear hxx hsz hv
  rw [HD.out, HT.out, ← HF.out]
  rcases hw with ⟨h1, h2⟩ | ⟨h1, h2⟩ | h1
  · obtain rfl : n = (u : Int) := by have := HN.out; omega
    have h3 : ¬ ((x.size : Int) < (u : Int)) := by omega
    go_enter Try.func62, Try.ntmps62
    go_wp2_with fail
    go_ret
    refine ⟨rfl, ⟨?_⟩, HOn.out.setCell _ _⟩
    rw [← HE.out]
    exact (blk_set H.out.blk _).trans (by first | rfl | simp)
  · obtain rfl : u = x.size := by have := HN.out; omega
    have h3 : ¬ (n < 0) := by omega
    go_enter Try.func62, Try.ntmps62
    go_wp2_with fail
    go_ret
    refine ⟨rfl, ⟨?_⟩, HOn.out.setCell _ _⟩
    rw [← HE.out]
    exact (blk_set H.out.blk _).trans (by first | rfl | simp)
  · obtain rfl : u = 0 := by have := HN.out; omega
    have h3 : ¬ (0 < n) := by omega
    go_enter Try.func62, Try.ntmps62
    go_wp2_with fail
    go_ret
    refine ⟨rfl, ⟨?_⟩, HOn.out.setCell _ _⟩
    have HE2 := HE.out
    first | (rw [← HE2]; exact (blk_set H.out.blk _).trans (by first | rfl | simp)) | (rw [HXX.out]; exact (blk_set H.out.blk _).trans (by first | rfl | simp))
end Go.Proofs.Ytlgeebclphcnjaa
