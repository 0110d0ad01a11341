/- Dates of fields (layer 6): the document's number and index. -/
import Derived.Test.YtgamekfickheaaaDte
namespace Go.Proofs.Ytgamekfickheaaa
open Go.RowKit
set_option linter.unusedVariables false
set_option linter.unusedSimpArgs false

theorem ba_tl6 {a b : ByteArray} : a.toList = b.toList ↔ a = b := by
  constructor
  · intro h
    rw [ByteArray.toList_eq, ByteArray.toList_eq] at h
    cases a with | mk d => cases b with | mk d2 => simp at h; rw [h]
  · rintro rfl; rfl
theorem ba_tlb6 {a b : ByteArray} (h : a ≠ b) : (a.toList == b.toList) = false := by rw [beq_eq_false_iff_ne]; exact fun e => h (ba_tl6.1 e)
/-- The document's number: -1 where there is none. -/
def nmD (s : ByteArray) : Int := if numE 10 s 9999 = 0 then numV 10 s 9999 else -1
theorem dnumber_any (s : ByteArray) (w : World) (hs : s.size ≤ maxLen) :
    Calls Try.prog 110 #[.string s] w fun e w' => e = .returned (.int .i64 (nmD s)) ∧ w' = w := by
  have HN := Kp.mk (show nmD s = if numE 10 s 9999 = 0 then numV 10 s 9999 else -1 from rfl)
  have HC := Kp.mk (fun w => ref_number_10_any s 9999 w hs (by decide) (by decide))
  generalize numE 10 s 9999 = E at *
  generalize numV 10 s 9999 = V at *
  generalize nmD s = R at *
  by_cases h : E = 0
  · subst h
    have HN2 := Kp.mk (HN.out.trans (if_pos rfl))
    clear HN
    go_enter Try.func110, Try.ntmps110
    go_wp2_with fail
    refine (HC.out _).mono ?_
    rintro e w1 ⟨rfl, rfl⟩
    go_wp2_with fail
    go_ret
    exact ⟨by rw [HN2.out]; rfl, rfl⟩
  · have HN2 := Kp.mk (HN.out.trans (if_neg h))
    have hb : (E != 0) = true := by rw [bne_iff_ne]; exact h
    clear HN
    go_enter Try.func110, Try.ntmps110
    go_wp2_with fail
    refine (HC.out _).mono ?_
    rintro e w1 ⟨rfl, rfl⟩
    go_wp2_with fail
    go_ret
    exact ⟨by rw [HN2.out]; rfl, rfl⟩
/-- The document's index: where a text stands among n ones. -/
def ixN (n : Nat) (S : Nat → ByteArray) (s : ByteArray) : Option Nat := (List.range n).find? fun k => decide (S k = s)
def ixD (n : Nat) (S : Nat → ByteArray) (s : ByteArray) : Int := match ixN n S s with | some k => (k : Int) | none => -1
set_option maxRecDepth 100000 in
set_option maxHeartbeats 2000000 in
theorem dindex_any (n : Nat) (S : Nat → ByteArray) (cs : Array Value) (b : Nat) (s : ByteArray) (w : World) (hn : n ≤ 100) (hcs : ∀ k, k < n → cs[k]? = some (.string (S k))) (hb : w.heap[b]? = some (.cells cs 9 (0, 0))) :
    Calls Try.prog 108 #[.slice (some ⟨b, 0, none⟩) n n, .string s] w fun e w' => e = .returned (.int .i64 (ixD n S s)) ∧ Below w.heap.size w w' := by
  have HC := Kp.mk hcs
  have HB := Kp.mk hb
  clear hcs hb
  go_enter Try.func108, Try.ntmps108
  go_wp2_with fail
  go_loopw [5] (fun i wr => ∃ k : Nat, k ≤ n ∧ i = .int .i64 k ∧ (∀ j, j < k → decide (S j = s) = false) ∧ Below w.heap.size w wr) (fun i _ => n - (intOf i).toNat)
  case atStart => exact ⟨0, by omega, rfl, fun j h => by omega, Below.refl _ _⟩
  case round =>
    obtain ⟨k, hk, rfl, ht, hw⟩ := hrel
    have HT := Kp.mk ht
    have HN := Kp.mk hw
    have c1 : k < n → wr.cell? ⟨b, k, none⟩ = some (.string (S k)) := fun hlt => blk_cell (i := k) ((hw.block _ (blk_lt HB.out)).trans HB.out) (HC.out k hlt)
    clear ht hw
    by_cases hlt : k < n
    · have c1 := c1 hlt
      have c2 : wr.cell? ⟨b, 0 + k, none⟩ = some (.string (S k)) := by rw [Nat.zero_add]; exact c1
      have q0 : (0 : Int) ≤ (k : Int) := by omega
      have q1 : (k : Int) < (n : Int) := by omega
      have q2 : (n : Int) ≤ 100 := by omega
      generalize hx1 : S k = x1 at *
      by_cases hxy : x1 = s
      · have HI := Kp.mk (show ixD n S s = (k : Int) by unfold ixD ixN; rw [find_hit hlt (by rw [hx1]; exact decide_eq_true hxy) HT.out])
        clear hx1
        subst hxy
        go_wp2_with fail
        (try go_quiet (fail))
        (try go_wp2_with fail)
        go_ret
        exact ⟨by rw [HI.out]; rfl, by first | exact HN.out | exact HN.out.trans ((gdrewN _ _).mono HN.out.size)⟩
      · have HT2 := Kp.mk (show ∀ j, j < k + 1 → decide (S j = s) = false from fun j hj => by
          rcases Nat.lt_or_ge j k with h1 | h1
          · exact HT.out j h1
          · obtain rfl : j = k := by omega
            rw [hx1]; exact decide_eq_false hxy)
        have t2 := ba_tlb6 hxy
        have t3 : ¬ (x1.toList = s.toList) := fun e => hxy (ba_tl6.1 e)
        clear hx1
        go_wp2_with fail
        (try go_quiet (fail))
        (try go_wp2_with fail)
        go_roundw
        case rel => exact ⟨k + 1, by omega, by go_num, HT2.out, by first | exact HN.out | exact HN.out.trans ((gdrewN _ _).mono HN.out.size)⟩
        case measure => simp [intOf]; omega
    · obtain rfl : k = n := by omega
      have HI := Kp.mk (show ixD k S s = -1 by unfold ixD ixN; rw [find_none HT.out])
      go_wp2_with fail
      go_ret
      exact ⟨by rw [HI.out]; rfl, HN.out⟩
end Go.Proofs.Ytgamekfickheaaa
