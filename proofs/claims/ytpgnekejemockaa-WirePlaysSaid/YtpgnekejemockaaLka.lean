/- A link: what came and was not used, what waits to go (layer 38). -/
import Derived.Test.YtpgnekejemockaaQue
import Derived.Test.YtpgnekejemockaaRfl
import Derived.RegionTactic
import Derived.ChangeAlike
import Derived.Deep.RegionWith
namespace Go.Proofs.Ytpgnekejemockaa
open Go.RowKit
set_option linter.unusedVariables false
set_option linter.unusedSimpArgs false

/-- A link lies in block b, what came in the queue qb, what waits in v. -/
structure LkV (F : Nat → Prop) (b qb qg M : Nat) (S : List UInt8) (v : Value) (O : List UInt8) (e0 e1 : Bool) (w : World) : Prop where
  blk : w.heap[b]? = some (.cells #[.pointer (some ⟨qb, 0, none⟩), v, .bool e0, .bool e1] 112 (0, 0))
  q : QS qb qg M S w
  own : OwO 0 5 v O w
  ne : v.ownBlock ≠ some b ∧ v.ownBlock ≠ some qb ∧ v.ownBlock ≠ some qg
  apart : b ≠ qb ∧ b ≠ qg
  fb : ¬ F b
  fq : ¬ F qb
  fg : ¬ F qg
  fv : ∀ k, v.ownBlock = some k → ¬ F k
def LK (F : Nat → Prop) (b qb qg M : Nat) (S O : List UInt8) (e0 e1 : Bool) (w : World) : Prop := ∃ v, LkV F b qb qg M S v O e0 e1 w
structure LkF (b qb : Nat) (v : Value) (e0 e1 : Bool) (w : World) : Prop where
  c0 : w.cell? ⟨b, 0, none⟩ = some (.pointer (some ⟨qb, 0, none⟩))
  c1 : w.cell? ⟨b, 1, none⟩ = some v
  c2 : w.cell? ⟨b, 2, none⟩ = some (.bool e0)
  c3 : w.cell? ⟨b, 3, none⟩ = some (.bool e1)
  f1 : w.frozen? ⟨b, 1, none⟩ = false
  f2 : w.frozen? ⟨b, 2, none⟩ = false
  f3 : w.frozen? ⟨b, 3, none⟩ = false
theorem LkV.facts {F : Nat → Prop} {b qb qg M : Nat} {S : List UInt8} {v : Value} {O : List UInt8} {e0 e1 : Bool} {w : World} (h : LkV F b qb qg M S v O e0 e1 w) : LkF b qb v e0 e1 w :=
  ⟨blk_cell h.blk rfl, blk_cell h.blk rfl, blk_cell h.blk rfl, blk_cell h.blk rfl, blk_free h.blk, blk_free h.blk, blk_free h.blk⟩
theorem LkV.kept {F : Nat → Prop} {b qb qg M : Nat} {S : List UInt8} {v : Value} {O : List UInt8} {e0 e1 : Bool} {w w' : World} (h : LkV F b qb qg M S v O e0 e1 w)
    (hb : ∀ k, k < w.heap.size → (k = b ∨ k = qb ∨ k = qg ∨ v.ownBlock = some k) → w'.heap[k]? = w.heap[k]?) : LkV F b qb qg M S v O e0 e1 w' :=
  ⟨(hb b (blk_lt h.blk) (.inl rfl)).trans h.blk, h.q.kept fun k hk hor => hb k hk (by rcases hor with h | h <;> simp [h]), h.own.kept fun k hk hl => hb k hl (by simp [hk]), h.ne, h.apart, h.fb, h.fq, h.fg, h.fv⟩
theorem LkV.below {F : Nat → Prop} {b qb qg M : Nat} {S : List UInt8} {v : Value} {O : List UInt8} {e0 e1 : Bool} {w w' : World} (h : LkV F b qb qg M S v O e0 e1 w) (hb : Below w.heap.size w w') : LkV F b qb qg M S v O e0 e1 w' := h.kept fun k hk _ => hb.block k hk
theorem LK.below {F : Nat → Prop} {b qb qg M : Nat} {S O : List UInt8} {e0 e1 : Bool} {w w' : World} (h : LK F b qb qg M S O e0 e1 w) (hb : Below w.heap.size w w') : LK F b qb qg M S O e0 e1 w' := by
  obtain ⟨v, h⟩ := h
  exact ⟨v, h.below hb⟩
theorem LK.drewN {F : Nat → Prop} {b qb qg M : Nat} {S O : List UInt8} {e0 e1 : Bool} {w : World} (h : LK F b qb qg M S O e0 e1 w) (n : Nat) : LK F b qb qg M S O e0 e1 (w.drewN n) := h.below (gdrewN w n)
theorem LK.drew {F : Nat → Prop} {b qb qg M : Nat} {S O : List UInt8} {e0 e1 : Bool} {w : World} (h : LK F b qb qg M S O e0 e1 w) : LK F b qb qg M S O e0 e1 w.drew := h.drewN 1
/-- A change of foreign blocks alone. -/
theorem LK.other {F : Nat → Prop} {b qb qg M : Nat} {S O : List UInt8} {e0 e1 : Bool} {w w' : World} (h : LK F b qb qg M S O e0 e1 w) (hb : ∀ k, k < w.heap.size → ¬ F k → w'.heap[k]? = w.heap[k]?) : LK F b qb qg M S O e0 e1 w' := by
  obtain ⟨v, h⟩ := h
  refine ⟨v, h.kept fun k hk hor => hb k hk ?_⟩
  rcases hor with rfl | rfl | rfl | hv
  · exact h.fb
  · exact h.fq
  · exact h.fg
  · exact h.fv k hv
theorem LK.set {F : Nat → Prop} {b qb qg M c : Nat} {S O : List UInt8} {e0 e1 : Bool} {w : World} (h : LK F b qb qg M S O e0 e1 w) (hc : F c) (o : Nat) (v : Value) : LK F b qb qg M S O e0 e1 (w.setCell ⟨c, o, none⟩ v) :=
  h.other fun k _ hk => Below.heap_setCell _ _ _ _ (show k ≠ c from fun e => hk (e ▸ hc))
theorem LK.mono {F G : Nat → Prop} {b qb qg M : Nat} {S O : List UInt8} {e0 e1 : Bool} {w : World} (h : LK F b qb qg M S O e0 e1 w) (hG : ∀ k, G k → F k) : LK G b qb qg M S O e0 e1 w := by
  obtain ⟨v, h⟩ := h
  exact ⟨v, h.blk, h.q, h.own, h.ne, h.apart, fun k => h.fb (hG _ k), fun k => h.fq (hG _ k), fun k => h.fg (hG _ k), fun k hk k2 => h.fv k hk (hG _ k2)⟩
/-- A block that is new is foreign, if we want. -/
theorem LK.add {F : Nat → Prop} {b qb qg M : Nat} {S O : List UInt8} {e0 e1 : Bool} {w : World} (h : LK F b qb qg M S O e0 e1 w) (n : Nat) (hn : w.heap.size ≤ n) : LK (fun k => F k ∨ k = n) b qb qg M S O e0 e1 w := by
  obtain ⟨v, h⟩ := h
  have h1 := blk_lt h.blk
  have h2 := h.q.lt
  exact ⟨v, h.blk, h.q, h.own, h.ne, h.apart, fun k => by rcases k with k | k; exact h.fb k; omega, fun k => by rcases k with k | k; exact h.fq k; omega, fun k => by rcases k with k | k; exact h.fg k; omega,
    fun k hk k2 => by rcases k2 with k2 | k2; exact h.fv k hk k2; have := (h.own.lt k hk).2; omega⟩
theorem LK.le {F : Nat → Prop} {b qb qg M : Nat} {S O : List UInt8} {e0 e1 : Bool} {w : World} (h : LK F b qb qg M S O e0 e1 w) : S.length ≤ M ∧ M ≤ 65536 := by
  obtain ⟨v, h⟩ := h
  exact h.q.le
theorem LK.lt {F : Nat → Prop} {b qb qg M : Nat} {S O : List UInt8} {e0 e1 : Bool} {w : World} (h : LK F b qb qg M S O e0 e1 w) : b < w.heap.size := by
  obtain ⟨v, h⟩ := h
  exact blk_lt h.blk
theorem lk_made (F : Nat → Prop) (b qb qg M : Nat) (S O : List UInt8) (e0 e1 : Bool) (w : World) (h : LK F b qb qg M S O e0 e1 w) :
    Calls Try.prog 68 #[.pointer (some ⟨b, 0, none⟩)] w fun e w' => e = .returned (.bool true) ∧ w = w' := by
  obtain ⟨v, h⟩ := h
  obtain ⟨c0, c1, c2, c3, f1, f2, f3⟩ := h.facts
  clear h
  go_enter Try.func68, Try.ntmps68
  go_wp2_with fail
  go_ret
  exact ⟨rfl, rfl⟩
theorem lk_live (F : Nat → Prop) (b qb qg M : Nat) (S O : List UInt8) (e0 e1 : Bool) (w : World) (h : LK F b qb qg M S O e0 e1 w) :
    Calls Try.prog 91 #[.pointer (some ⟨b, 0, none⟩)] w fun e w' => e = .returned (.bool (!e1)) ∧ w = w' := by
  have H := Kp.mk h
  obtain ⟨v, h⟩ := h
  obtain ⟨c0, c1, c2, c3, f1, f2, f3⟩ := h.facts
  clear h
  go_enter Try.func91, Try.ntmps91
  go_wp2_with fail
  refine (lk_made F b qb qg M S O e0 e1 _ H.out).mono ?_
  rintro e w1 ⟨rfl, rfl⟩
  go_wp2_with fail
  go_ret
  exact ⟨rfl, rfl⟩
theorem lk_waits (F : Nat → Prop) (b qb qg M : Nat) (S O : List UInt8) (e0 e1 : Bool) (w : World) (h : LK F b qb qg M S O e0 e1 w) :
    Calls Try.prog 36 #[.pointer (some ⟨b, 0, none⟩)] w fun e w' => e = .returned (.int .i64 O.length) ∧ w = w' := by
  have H := Kp.mk h
  obtain ⟨v, h⟩ := h
  obtain ⟨c0, c1, c2, c3, f1, f2, f3⟩ := h.facts
  obtain ⟨a, c, rfl, hc1, hc2⟩ := h.own.form
  clear h
  go_enter Try.func36, Try.ntmps36
  go_wp2_with fail
  refine (lk_made F b qb qg M S O e0 e1 _ H.out).mono ?_
  rintro e w1 ⟨rfl, rfl⟩
  go_wp2_with fail
  go_ret
  exact ⟨rfl, rfl⟩
theorem lk_dry (F : Nat → Prop) (b qb qg M : Nat) (S O : List UInt8) (e0 e1 : Bool) (w : World) (h : LK F b qb qg M S O e0 e1 w) :
    Calls Try.prog 35 #[.pointer (some ⟨b, 0, none⟩)] w fun e w' => e = .returned (.bool (e0 && decide (S = []))) ∧ w = w' := by
  have H := Kp.mk h
  obtain ⟨v, h⟩ := h
  have HQ := Kp.mk h.q
  obtain ⟨c0, c1, c2, c3, f1, f2, f3⟩ := h.facts
  clear h
  cases e0
  · go_enter Try.func35, Try.ntmps35
    go_wp2_with fail
    refine (lk_made F b qb qg M S O false e1 _ H.out).mono ?_
    rintro e w1 ⟨rfl, rfl⟩
    go_wp2_with fail
    go_ret
    exact ⟨rfl, rfl⟩
  · have hway : (((S.length : Int) == 0) = true ∧ decide (S = []) = true) ∨ (((S.length : Int) == 0) = false ∧ decide (S = []) = false) := by
      by_cases h0 : S = []
      · subst h0; exact .inl ⟨rfl, rfl⟩
      · have hl : S.length ≠ 0 := fun h => h0 (List.length_eq_zero_iff.1 h)
        exact .inr ⟨i64nq (by omega), decide_eq_false h0⟩
    rcases hway with ⟨t1, t2⟩ | ⟨t1, t2⟩
    all_goals
      have T2 := Kp.mk t2
      clear t2
      go_enter Try.func35, Try.ntmps35
      go_wp2_with fail
      refine (lk_made F b qb qg M S O true e1 _ H.out).mono ?_
      rintro e w1 ⟨rfl, rfl⟩
      go_wp2_with fail
      refine (q_len _ _ _ _ _ HQ.out).mono ?_
      rintro e w1 ⟨rfl, rfl⟩
      go_wp2_with fail
      go_ret
      exact ⟨by rw [T2.out]; rfl, rfl⟩
theorem lk_left (F : Nat → Prop) (b qb qg M : Nat) (S O : List UInt8) (e0 e1 : Bool) (w : World) (h : LK F b qb qg M S O e0 e1 w) :
    Calls Try.prog 34 #[.pointer (some ⟨b, 0, none⟩)] w fun e w' => e = .returned (.string (oB S)) ∧ Below w.heap.size w w' := by
  have H := Kp.mk h
  obtain ⟨v, h⟩ := h
  have HQ := Kp.mk h.q
  obtain ⟨c0, c1, c2, c3, f1, f2, f3⟩ := h.facts
  have HS := Kp.mk (show oB (S.take (S.length : Int).toNat) = oB S by rw [Int.toNat_natCast, List.take_length])
  clear h
  go_enter Try.func34, Try.ntmps34
  go_wp2_with fail
  refine (lk_made F b qb qg M S O e0 e1 _ H.out).mono ?_
  rintro e w1 ⟨rfl, rfl⟩
  go_wp2_with fail
  have HQD := Kp.mk (show QS qb qg M S w.drew from HQ.out.below (gdrewN w 1))
  first
    | go_region_with (first
        | (go_at_call 70; refine (q_len qb qg M S _ HQD.out).mono ?_; rintro e w1 ⟨rfl, rfl⟩)
        | (go_at_call 69; refine (q_peek qb qg M S _ _ HQD.out).mono ?_; rintro e w2 ⟨rfl, hb1⟩; rw [HS.out]; have HB1 := Kp.mk hb1; clear hb1))
    | fail
  all_goals
    go_wp2_with fail
    go_ret
    exact ⟨rfl, (gdrewN w 1).trans (HB1.out.mono (Nat.le_refl _))⟩
end Go.Proofs.Ytpgnekejemockaa
