/- Octets that wait: the document's queue; the law QueuePlays (layer 3). -/
import Derived.Test.YtkdfhhhlmeknmaaQuf
import Derived.Deep.RegionWith
import Derived.Deep.RegionHeld3
import Derived.RegionTactic
import Derived.ChangeAlike
namespace Go.Proofs.Ytkdfhhhlmeknmaa
open Go.RowKit
set_option linter.unusedVariables false
set_option linter.unusedSimpArgs false

/-- The document's queue lies in block c. -/
structure RQ (c M : Nat) (S : List UInt8) (w : World) : Prop where
  blk : w.heap[c]? = some (.cells #[.string (oB S), .int .i64 M] 48 (0, 0))
theorem RQ.kept {c M : Nat} {S : List UInt8} {w w' : World} (h : RQ c M S w) (hb : w'.heap[c]? = w.heap[c]?) : RQ c M S w' := ⟨hb.trans h.blk⟩
def RQTo (c M : Nat) (S' : List UInt8) (w w' : World) : Prop := RQ c M S' w' ∧ Onl c none w w'
theorem rq_peek (c M : Nat) (S : List UInt8) (m : Int) (w : World) (h : RQ c M S w) (hS : S.length ≤ 100000) :
    Calls Try.prog 34 #[.pointer (some ⟨c, 0, none⟩), .int .i64 m] w fun e w' => e = .returned (.string (oB (S.take m.toNat))) ∧ Below w.heap.size w w' := by
  have c0 := blk_cell (i := 0) h.blk rfl
  have hsz := oB_size S
  have HL := Kp.mk (oB_list S)
  generalize hx : oB S = x at *
  have hxs : x.size ≤ 100000 := by omega
  have HZ := Kp.mk hsz
  clear h hsz hx
  by_cases h1 : m < 1
  · have HQ := Kp.mk (show oB (S.take m.toNat) = ⟨#[]⟩ by rw [show m.toNat = 0 by omega]; rfl)
    go_enter Try.func34, Try.ntmps34
    go_wp2_with fail
    go_ret
    exact ⟨by rw [HQ.out]; rfl, Below.refl _ _⟩
  · by_cases h2 : (x.size : Int) < m
    · have HQ := Kp.mk (show oB (S.take m.toNat) = x by
        have h9 : (oB (S.take m.toNat)).data.toList = x.data.toList := by
          rw [oB_list, HL.out, List.take_of_length_le (by have := HZ.out; omega)]
        cases hh : oB (S.take m.toNat) with
        | mk d => rw [hh] at h9; cases x with | mk d2 => simp at h9; rw [h9])
      go_enter Try.func34, Try.ntmps34
      go_wp2_with fail
      try go_quiet (fail)
      try go_wp2_with fail
      go_ret
      exact ⟨by rw [HQ.out]; rfl, by first | exact Below.refl _ _ | exact gdrewN _ _⟩
    · obtain ⟨u, rfl⟩ := Int.eq_ofNat_of_zero_le (show 0 ≤ m by omega)
      have hu : u ≤ x.size := by omega
      have HQ := Kp.mk (show oB (S.take u) = x.extract 0 u by
        have h9 : (oB (S.take u)).data.toList = (x.extract 0 u).data.toList := by
          rw [oB_list, Lib.extract_data, HL.out]; simp
        cases hh : oB (S.take u) with
        | mk d => rw [hh] at h9; cases hh2 : x.extract 0 u with | mk d2 => rw [hh2] at h9; simp at h9; rw [h9])
      rw [Int.toNat_natCast]
      go_enter Try.func34, Try.ntmps34
      go_wp2_with fail
      try go_quiet (fail)
      try go_wp2_with fail
      go_ret
      exact ⟨by rw [HQ.out]; rfl, by first | exact Below.refl _ _ | exact gdrewN _ _⟩
theorem extr_oB (S : List UInt8) (u : Nat) : (oB S).extract u (oB S).size = oB (S.drop u) := by
  have h9 : ((oB S).extract u (oB S).size).data.toList = (oB (S.drop u)).data.toList := by
    rw [Lib.extract_data, oB_list, oB_list, List.take_of_length_le (by rw [List.length_drop, oB_size]; omega)]
  cases hh : (oB S).extract u (oB S).size with
  | mk d => cases hh2 : oB (S.drop u) with | mk d2 => rw [hh, hh2] at h9; simp at h9; rw [h9]
theorem rq_take (c M : Nat) (S : List UInt8) (m : Int) (w : World) (h : RQ c M S w) (hS : S.length ≤ 100000) :
    Calls Try.prog 32 #[.pointer (some ⟨c, 0, none⟩), .int .i64 m] w fun e w' => e = .returned (.string (oB (S.take m.toNat))) ∧ RQTo c M (S.drop m.toNat) w w' := by
  have H := Kp.mk h
  have hyl : (oB (S.take m.toNat)).size ≤ (oB S).size := by rw [oB_size, oB_size, List.length_take]; omega
  have hxs : (oB S).size ≤ 100000 := by rw [oB_size]; omega
  have HYS := Kp.mk (show (oB (S.take m.toNat)).size = min m.toNat S.length by rw [oB_size, List.length_take])
  have HD := Kp.mk (show S.drop m.toNat = S.drop (min m.toNat S.length) by
    by_cases h9 : m.toNat ≤ S.length
    · rw [Nat.min_eq_left h9]
    · rw [List.drop_of_length_le (by omega), List.drop_of_length_le (by omega)])
  have HE := Kp.mk (extr_oB S (min m.toNat S.length))
  clear h
  go_enter Try.func32, Try.ntmps32
  go_wp2_with fail
  refine (rq_peek c M S m _ H.out hS).mono ?_
  rintro e w1 ⟨rfl, hb1⟩
  have H1 := Kp.mk (H.out.kept (hb1.block c (blk_lt H.out.blk)))
  have c0 := blk_cell (i := 0) H1.out.blk rfl
  have f0 := blk_free (i := 0) H1.out.blk
  have HB1 := Kp.mk hb1
  clear hb1
  generalize hy : oB (S.take m.toNat) = y at *
  have HY := Kp.mk hy
  clear hy
  go_wp2_with fail
  go_ret
  refine ⟨by rw [HY.out]; rfl, ⟨?_⟩, (Onl.of HB1.out).setCell _ _⟩
  refine (blk_set H1.out.blk _).trans ?_
  rw [HYS.out, HE.out, HD.out]
  rfl
theorem oB_snoc (S : List UInt8) (s : ByteArray) (k : Nat) (h : k < s.size) : oB (S ++ s.data.toList.take k) ++ s.extract k (k + 1) = oB (S ++ s.data.toList.take (k + 1)) := by
  have h9 : (oB (S ++ s.data.toList.take k) ++ s.extract k (k + 1)).data.toList = (oB (S ++ s.data.toList.take (k + 1))).data.toList := by
    rw [cat_app, oB_list, oB_list, Lib.extract_data, List.take_succ_eq_append_getElem (by simpa using h), List.append_assoc]
    congr 2
    rw [List.drop_eq_getElem_cons (by simpa using h), show k + 1 - k = 1 by omega]
    rfl
  cases hh : oB (S ++ s.data.toList.take k) ++ s.extract k (k + 1) with
  | mk d => cases hh2 : oB (S ++ s.data.toList.take (k + 1)) with | mk d2 => rw [hh, hh2] at h9; simp at h9; rw [h9]
theorem RQTo.drewN {c M : Nat} {S : List UInt8} {w w' : World} (h : RQTo c M S w w') (n : Nat) : RQTo c M S w (w'.drewN n) := ⟨h.1.kept rfl, h.2.drewN n⟩
set_option maxRecDepth 100000 in
set_option maxHeartbeats 2000000 in
theorem rq_put (c M : Nat) (S : List UInt8) (s : ByteArray) (w : World) (h : RQ c M S w) (hM : M ≤ 100000) (hS : S.length ≤ M) (hs : s.size ≤ 100000) :
    Calls Try.prog 30 #[.pointer (some ⟨c, 0, none⟩), .string s] w fun e w' => e = .returned (.int .i64 (min s.size (M - S.length) : Nat)) ∧ RQTo c M (S ++ s.data.toList.take (min s.size (M - S.length))) w w' := by
  have H := Kp.mk (show RQTo c M (S ++ s.data.toList.take 0) w w from ⟨by simpa using h, Onl.refl _ _ _⟩)
  clear h
  go_enter Try.func30, Try.ntmps30
  go_wp2_with fail
  go_loopw [5] (fun i wr => ∃ k : Nat, k ≤ s.size ∧ S.length + k ≤ M ∧ i = .int .i64 k ∧ RQTo c M (S ++ s.data.toList.take k) w wr) (fun i _ => s.size - (intOf i).toNat)
  case atStart => exact ⟨0, by omega, by omega, rfl, H.out⟩
  case round =>
    obtain ⟨k, hk, hkM, rfl, hto⟩ := hrel
    have HT := Kp.mk hto
    have c0 := blk_cell (i := 0) hto.1.blk rfl
    have c1 := blk_cell (i := 1) hto.1.blk rfl
    have f0 := blk_free (i := 0) hto.1.blk
    have hsz := oB_size (S ++ s.data.toList.take k)
    rw [List.length_append, List.length_take, ← ba_size', Nat.min_eq_left hk] at hsz
    have HSZ := Kp.mk hsz
    clear hto hsz
    by_cases hlt : k < s.size
    · have t1 : decide ((k : Int) < (s.size : Int)) = true := decide_eq_true (by omega)
      have t2 : decide (k < s.size) = true := decide_eq_true hlt
      have HSN := Kp.mk (oB_snoc S s k hlt)
      by_cases hlm : S.length + k < M
      · generalize hx : oB (S ++ s.data.toList.take k) = x at *
        have HX := Kp.mk hx
        have hxs : x.size ≤ 100000 := by have := HSZ.out; omega
        have t3 : decide ((x.size : Int) < (M : Int)) = true := decide_eq_true (by have := HSZ.out; omega)
        have t4 : decide (x.size < M) = true := decide_eq_true (by have := HSZ.out; omega)
        clear hx
        have q0 : (0 : Int) ≤ (k : Int) := by omega
        have q1 : (k : Int) + 1 ≤ (s.size : Int) := by omega
        go_wp2_with fail
        go_quiet (fail)
        go_wp2_with fail
        go_region
        go_wp2_with fail
        refine ⟨⟨k + 1, by omega, by omega, by go_num, ⟨?_⟩, (HT.out.2.drewN _).setCell _ _⟩, by simp [intOf]; omega⟩
        rw [HSN.out]
        exact (blk_set (blk_drewN HT.out.1.blk _) _).trans (by simp)
      · have HU := Kp.mk (show min s.size (M - S.length) = k by omega)
        generalize hx : oB (S ++ s.data.toList.take k) = x at *
        have hxs : x.size ≤ 100000 := by have := HSZ.out; omega
        have t3 : decide ((x.size : Int) < (M : Int)) = false := decide_eq_false (by have := HSZ.out; omega)
        have t4 : decide (x.size < M) = false := decide_eq_false (by have := HSZ.out; omega)
        clear hx HSN
        go_wp2_with fail
        go_quiet (fail)
        go_wp2_with fail
        go_ret
        exact ⟨qret (by rw [HU.out]), by rw [HU.out]; exact HT.out.drewN _⟩
    · have HU := Kp.mk (show min s.size (M - S.length) = k by omega)
      have t1 : decide ((k : Int) < (s.size : Int)) = false := decide_eq_false (by omega)
      have t2 : decide (k < s.size) = false := decide_eq_false hlt
      generalize hx : oB (S ++ s.data.toList.take k) = x at *
      clear hx
      go_wp2_with fail
      go_quiet (fail)
      go_wp2_with fail
      go_ret
      exact ⟨qret (by rw [HU.out]), by rw [HU.out]; exact HT.out.drewN _⟩
end Go.Proofs.Ytkdfhhhlmeknmaa
