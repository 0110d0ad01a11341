/- Lines that are taken out of octets: octets one behind the other; Feed, Line and the rest (layer 16). -/
import Derived.Test.YtcbfhlnnfnpkdaaGreatDoorLnb
namespace Go.Proofs.YtcbfhlnnfnpkdaaGreatDoor
open Go.RowKit
set_option linter.unusedVariables false
set_option linter.unusedSimpArgs false

theorem LinTo.refl {b most : Nat} {st : LS} {tv : Value} {w : World} (h : LinAt b most st tv w) : LinTo b most st tv w w := ⟨tv, h, Onl.refl _ _ _, Nxt.refl _ _⟩
theorem LinTo.to {b most : Nat} {st2 : LS} {tv tv1 : Value} {w w1 w2 : World} (h2 : Onl b tv.ownBlock w w1) (h3 : Nxt w tv.ownBlock tv1.ownBlock) (k : LinTo b most st2 tv1 w1 w2) : LinTo b most st2 tv w w2 := by
  obtain ⟨tv2, k1, k2, k3⟩ := k
  exact ⟨tv2, k1, h2.trans h3 k2, h3.trans h2.size k3⟩
theorem drop_atL (s : ByteArray) (k : Nat) (h : k < s.size) : s.data.toList.drop k = s[k] :: s.data.toList.drop (k + 1) := by
  rw [List.drop_eq_getElem_cons (by simpa using h)]; rfl
theorem run_yes {most : Nat} {st : LS} {c : UInt8} {l : List UInt8} (h : (seeS most st c).2 = true) : runS most st (c :: l) = ((runS most (seeS most st c).1 l).1 + 1, (runS most (seeS most st c).1 l).2) := by
  conv => lhs; unfold runS
  rw [if_pos h]
theorem run_no {most : Nat} {st : LS} {c : UInt8} {l : List UInt8} (h : (seeS most st c).2 = false) : runS most st (c :: l) = (0, (seeS most st c).1) := by
  unfold runS; rw [h]; simp
theorem ret_i {k : IntKind} {a b : Int} (h : a = b) : Ending.returned (.int k a) = .returned (.int k b) := by rw [h]

set_option maxRecDepth 100000 in
set_option maxHeartbeats 1000000 in
theorem each_any (s : ByteArray) (b most : Nat) (st : LS) (tv : Value) (w : World) (hs : s.size ≤ 1000000) (h : LinAt b most st tv w) :
    Calls Tryz.prog 99 #[.string s, .func (.func 100) #[.pointer (some ⟨b, 0, none⟩)] #[]] w
      fun e w' => e = .returned (.int .i64 (runS most st s.data.toList).1) ∧ LinTo b most (runS most st s.data.toList).2 tv w w' := by
  have H0 := Kp.mk (LinTo.refl h)
  clear h
  go_enter Tryz.func99, Tryz.ntmps99
  go_wp2_with fail
  go_loopw [8] (fun i wr => ∃ (k : Nat) (st' : LS), k ≤ s.size ∧ i = .int .i64 k ∧ LinTo b most st' tv w wr ∧ runS most st s.data.toList = ((runS most st' (s.data.toList.drop k)).1 + k, (runS most st' (s.data.toList.drop k)).2)) (fun i _ => s.size - (intOf i).toNat)
  case atStart => exact ⟨0, st, by omega, rfl, H0.out, by simp⟩
  case round =>
    obtain ⟨k, st', hk, rfl, hto, hrun⟩ := hrel
    have HT := Kp.mk hto
    have HR := Kp.mk hrun
    clear hto hrun
    by_cases hlt : k < s.size
    · obtain ⟨tv', ha', ho', hn'⟩ := HT.out
      have HA := Kp.mk ha'
      have HO := Kp.mk ho'
      have HN := Kp.mk hn'
      clear ha' ho' hn'
      have HD := Kp.mk (drop_atL s k hlt)
      go_wp2_with fail
      refine (see_any b most st' tv' _ _ HA.out).mono ?_
      rintro e w2 ⟨rfl, hb2⟩
      have HT2 := Kp.mk (LinTo.to HO.out HN.out hb2)
      clear hb2
      cases hx : (seeS most st' s[k]).2
      · have HX := Kp.mk hx
        clear hx
        go_wp2_with fail
        go_ret
        have h1 := HR.out
        rw [HD.out, run_no HX.out] at h1
        exact ⟨ret_i (by rw [h1]; simp), by rw [h1]; exact HT2.out⟩
      · have HX := Kp.mk hx
        clear hx
        go_wp2_with fail
        go_roundw
        case rel =>
          refine ⟨k + 1, (seeS most st' s[k]).1, by omega, by go_num, HT2.out, ?_⟩
          have h1 := HR.out
          rw [HD.out, run_yes HX.out] at h1
          rw [h1]
          simp only
          rw [show (runS most (seeS most st' s[k]).1 (List.drop (k + 1) s.data.toList)).1 + 1 + k = (runS most (seeS most st' s[k]).1 (List.drop (k + 1) s.data.toList)).1 + (k + 1) by omega]
        case measure => simp [intOf]; omega
    · go_wp2_with fail
      go_ret
      have hke : k = s.size := by omega
      subst hke
      have h1 := HR.out
      rw [List.drop_of_length_le (by simp)] at h1
      have h2 : runS most st' [] = (0, st') := rfl
      rw [h2] at h1
      refine ⟨ret_i (by rw [h1]; simp), by rw [h1]; exact HT.out⟩
theorem ret_ii {a b c d : Int} (h : a = b) (h2 : c = d) : Ending.returned (.tuple #[.int .i64 a, .int .i64 c]) = .returned (.tuple #[.int .i64 b, .int .i64 d]) := by rw [h, h2]
set_option maxHeartbeats 1000000 in
theorem feed_any (s : ByteArray) (b most : Nat) (st : LS) (tv : Value) (w : World) (hs : s.size ≤ 1000000) (h : LinAt b most st tv w) :
    Calls Tryz.prog 57 #[.pointer (some ⟨b, 0, none⟩), .string s] w
      fun e w' => e = .returned (.tuple #[.int .i64 (runS most st s.data.toList).1, .int .i64 (runS most st s.data.toList).2.err]) ∧ LinTo b most (runS most st s.data.toList).2 tv w w' := by
  have H := Kp.mk h
  clear h
  go_enter Tryz.func57, Tryz.ntmps57
  go_wp2_with fail
  refine (each_any s b most st tv _ hs H.out).mono ?_
  rintro e w1 ⟨rfl, hto⟩
  have HT := Kp.mk hto
  obtain ⟨tv1, h1, h2, h3⟩ := hto
  have g5 := h1.facts.c5
  clear h1 h2 h3
  go_wp2_with fail
  go_quiet (fail)
  go_wp2_with fail
  go_ret2
  obtain ⟨tv1, h1, h2, h3⟩ := HT.out
  exact ⟨rfl, tv1, h1.drewN _, h2.drewN _, h3⟩
def emE (s : ByteArray) : Int := if s.size = 0 then 0 else 4
theorem feed_none (s : ByteArray) (w : World) :
    Calls Tryz.prog 57 #[.pointer none, .string s] w
      fun e w' => e = .returned (.tuple #[.int .i64 0, .int .i64 (emE s)]) ∧ Below w.heap.size w w' := by
  by_cases h0 : s.size = 0
  · have HQ := Kp.mk (show emE s = 0 by unfold emE; rw [if_pos h0])
    have he : s.toList = [] := by rw [ByteArray.toList_eq, ← List.length_eq_zero_iff]; simpa using h0
    clear h0
    go_enter Tryz.func57, Tryz.ntmps57
    go_wp2_with fail
    go_ret2
    exact ⟨by rw [HQ.out]; rfl, Below.refl _ _⟩
  · have HQ := Kp.mk (show emE s = 4 by unfold emE; rw [if_neg h0])
    have he : s.toList.isEmpty = false := by
      cases hh : s.toList.isEmpty
      · rfl
      · rw [List.isEmpty_iff, ByteArray.toList_eq, ← List.length_eq_zero_iff] at hh; exact absurd (by simpa using hh) h0
    clear h0
    go_enter Tryz.func57, Tryz.ntmps57
    go_wp2_with fail
    go_ret2
    exact ⟨by rw [HQ.out]; rfl, Below.refl _ _⟩
theorem whole_any (b most : Nat) (st : LS) (tv : Value) (w : World) (h : LinAt b most st tv w) :
    Calls Tryz.prog 58 #[.pointer (some ⟨b, 0, none⟩)] w fun e w' => e = .returned (.bool st.whole) ∧ w = w' := by
  obtain ⟨c0, c1, c2, c3, c4, c5, f1, f2, f3, f4, f5⟩ := h.facts
  clear h
  go_enter Tryz.func58, Tryz.ntmps58
  go_wp2_with fail
  go_ret
  exact ⟨rfl, rfl⟩
theorem whole_none (w : World) :
    Calls Tryz.prog 58 #[.pointer none] w fun e w' => e = .returned (.bool false) ∧ w = w' := by
  go_enter Tryz.func58, Tryz.ntmps58
  go_wp2_with fail
  go_ret
  exact ⟨rfl, rfl⟩
theorem within_none (w : World) :
    Calls Tryz.prog 56 #[.pointer none] w fun e w' => e = .returned (.bool false) ∧ w = w' := by
  go_enter Tryz.func56, Tryz.ntmps56
  go_wp2_with fail
  go_ret
  exact ⟨rfl, rfl⟩
theorem own_len {w : World} {base : Nat} {e : TypeId} {size n : Nat} {v : Value} {xs : List Value} (h : w.ownsRow base e size v n xs) : ∃ a c, v = .slice a n c := by
  rcases h.2 with ⟨rfl, rfl⟩ | ⟨g, cap, cur, rfl, _⟩
  · exact ⟨_, _, rfl⟩
  · exact ⟨_, _, rfl⟩
theorem within16_any (b most : Nat) (st : LS) (tv : Value) (w : World) (h : LinAt b most st tv w) (hw : st.whole = false) :
    Calls Tryz.prog 56 #[.pointer (some ⟨b, 0, none⟩)] w fun e w' => e = .returned (.bool (wthS st)) ∧ w = w' := by
  have htl := h.text_le
  have hsl := h.spent_le
  have hml := h.most_le
  obtain ⟨spent, text, cr, whole, err⟩ := st
  obtain ⟨a, c, rfl⟩ := own_len h.own
  obtain ⟨c0, c1, c2, c3, c4, c5, f1, f2, f3, f4, f5⟩ := h.facts
  clear h
  simp only at *
  subst hw
  have HQ := Kp.mk (show wthS ⟨spent, text, cr, false, err⟩ = (cr || !text.isEmpty) from rfl)
  have HL := Kp.mk (show decide ((0 : Int) < (text.length : Int)) = !text.isEmpty by cases text <;> simp)
  generalize text.length = n at *
  cases cr
  · go_enter Tryz.func56, Tryz.ntmps56
    go_wp2_with fail
    go_ret
    refine ⟨ret_bool ?_, rfl⟩
    rw [HQ.out, ← HL.out]; simp
  · go_enter Tryz.func56, Tryz.ntmps56
    go_wp2_with fail
    go_ret
    refine ⟨ret_bool ?_, rfl⟩
    rw [HQ.out]; rfl
end Go.Proofs.YtcbfhlnnfnpkdaaGreatDoor
