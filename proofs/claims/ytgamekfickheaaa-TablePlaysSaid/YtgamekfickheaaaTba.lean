/- Things in slots (layer 40): a table in memory; what it does, call by call. -/
import Derived.Test.YtgamekfickheaaaRfl
import Derived.Test.YtgamekfickheaaaProg
import Derived.Deep.QuietTactic
import Derived.Deep.DeepCutAuto
namespace Go.Proofs.Ytgamekfickheaaa
open Go.RowKit
set_option linter.unusedVariables false
set_option linter.unusedSimpArgs false

abbrev Slt := Int × Bool
def slC (p : Slt) : List Value := [.int .i64 p.1, .bool p.2]
def slL (S : List Slt) : List Value := S.flatMap slC
theorem slL_len : ∀ S : List Slt, (slL S).length = S.length * 2
  | [] => rfl
  | p :: S => by
    have := slL_len S
    unfold slL at this ⊢
    rw [List.flatMap_cons, List.length_append, this, List.length_cons]
    simp [slC]
    omega
theorem slL_set (y : Slt) : ∀ (S : List Slt) (k : Nat), k < S.length → slL (S.set k y) = ((slL S).set (k * 2) (.int .i64 y.1)).set (k * 2 + 1) (.bool y.2)
  | [], k, h => by simp at h
  | p :: S, 0, _ => rfl
  | p :: S, k + 1, h => by
    have ih := slL_set y S k (by simpa using h)
    unfold slL at ih ⊢
    rw [List.set_cons_succ, List.flatMap_cons, List.flatMap_cons, ih]
    simp only [slC, List.cons_append, List.nil_append, Nat.succ_mul, Nat.add_mul, Nat.one_mul, List.set_cons_succ, Nat.add_right_comm _ 2 1]
theorem slL_at {S : List Slt} {k : Nat} (h : k < S.length) : (slL S)[k * 2]? = some (.int .i64 S[k].1) ∧ (slL S)[k * 2 + 1]? = some (.bool S[k].2) := by
  have h0 := flat_at (f := slC) (sz := 2) (fun _ => rfl) S k h 0 (by omega)
  have h1 := flat_at (f := slC) (sz := 2) (fun _ => rfl) S k h 1 (by omega)
  exact ⟨h0, h1⟩
/-- The table at b has the slots S, in the block g. -/
structure TB (b g : Nat) (S : List Slt) (w : World) : Prop where
  hb : w.heap[b]? = some (.cells #[.slice (some ⟨g, 0, none⟩) S.length S.length] 127 (0, 0))
  hg : w.heap[g]? = some (.cells (slL S).toArray 132 (0, 0))
  ne : b ≠ g
theorem TB.kept {b g : Nat} {S : List Slt} {w w' : World} (h : TB b g S w) (h1 : w'.heap[b]? = w.heap[b]?) (h2 : w'.heap[g]? = w.heap[g]?) : TB b g S w' := ⟨h1.trans h.hb, h2.trans h.hg, h.ne⟩
theorem TB.below {b g : Nat} {S : List Slt} {w w' : World} (h : TB b g S w) (hb : Below w.heap.size w w') : TB b g S w' := h.kept (hb.block _ (blk_lt h.hb)) (hb.block _ (blk_lt h.hg))
theorem TB.cell {b g : Nat} {S : List Slt} {w : World} (h : TB b g S w) {k : Nat} (hk : k < S.length) : w.cell? ⟨g, k * 2, none⟩ = some (.int .i64 S[k].1) ∧ w.cell? ⟨g, k * 2 + 1, none⟩ = some (.bool S[k].2) :=
  ⟨blk_cell h.hg (by simpa using (slL_at hk).1), blk_cell h.hg (by simpa using (slL_at hk).2)⟩
theorem TB.free {b g : Nat} {S : List Slt} {w : World} (h : TB b g S w) (k : Nat) : w.frozen? ⟨g, k, none⟩ = false := blk_free h.hg
theorem TB.set {b g : Nat} {S : List Slt} {w : World} (h : TB b g S w) {k : Nat} (hk : k < S.length) (y : Slt) : TB b g (S.set k y) ((w.setCell ⟨g, k * 2, none⟩ (.int .i64 y.1)).setCell ⟨g, k * 2 + 1, none⟩ (.bool y.2)) := by
  refine ⟨?_, ?_, h.ne⟩
  · rw [List.length_set]
    exact blk_set_other (blk_set_other h.hb h.ne _) h.ne _
  · have := blk_set (i := k * 2 + 1) (blk_set (i := k * 2) h.hg (.int .i64 y.1)) (.bool y.2)
    rw [this]
    congr 2
    rw [slL_set y S k hk]
    simp
def frI : List Slt → Nat
  | [] => 0
  | p :: r => if p.2 = true then frI r + 1 else 0
theorem frI_at : ∀ {S : List Slt} {k : Nat} (hk : k < S.length), (∀ (j : Nat) (h : j < S.length), j < k → S[j].2 = true) → S[k].2 = false → frI S = k
  | p :: r, 0, _, _, h => by simp at h; simp [frI, h]
  | p :: r, k + 1, hk, h1, h => by
    have h0 := h1 0 (by simp) (by omega)
    have ih := frI_at (S := r) (k := k) (by simpa using hk) (fun j hj hjk => h1 (j + 1) (by simpa using hj) (by omega)) h
    simp at h0
    simp [frI, h0, ih]
theorem frI_full : ∀ {S : List Slt}, (∀ (j : Nat) (h : j < S.length), S[j].2 = true) → frI S = S.length
  | [], _ => rfl
  | p :: r, h1 => by
    have h0 := h1 0 (by simp)
    have ih := frI_full (S := r) fun j hj => h1 (j + 1) (by simpa using hj)
    simp at h0
    simp [frI, h0, ih]
def putB (S : List Slt) : Bool := decide (frI S < S.length)
def putN (S : List Slt) : Nat := if frI S < S.length then frI S else 0
def putS (S : List Slt) (x : Int) : List Slt := if frI S < S.length then S.set (frI S) (x, true) else S
theorem tall_any (b g : Nat) (S : List Slt) (w : World) (h : TB b g S w) : Calls Try.prog 86 #[.pointer (some ⟨b, 0, none⟩)] w fun e w' => e = .returned (.slice (some ⟨g, 0, none⟩) S.length S.length) ∧ w = w' := by
  have c0 := blk_cell (i := 0) h.hb rfl
  clear h
  go_enter Try.func86, Try.ntmps86
  go_wp2_with fail
  go_ret
  exact ⟨rfl, rfl⟩
theorem tall_nil (w : World) : Calls Try.prog 86 #[.pointer none] w fun e w' => e = .returned (.slice none 0 0) ∧ w = w' := by
  go_enter Try.func86, Try.ntmps86
  go_wp2_with fail
  go_ret
  exact ⟨rfl, rfl⟩
def PutT (b g : Nat) (S : List Slt) (x : Int) (w : World) (e : Ending) (w' : World) : Prop :=
  e = .returned (.tuple #[.int .i64 (putN S), .bool (putB S)]) ∧ TB b g (putS S x) w' ∧ Kpt (fun k => k ≠ g) w w'
set_option maxRecDepth 100000 in
set_option maxHeartbeats 1000000 in
theorem tput_any (b g : Nat) (S : List Slt) (x : Int) (w : World) (h : TB b g S w) (hl : S.length ≤ 1000) :
    Calls Try.prog 85 #[.pointer (some ⟨b, 0, none⟩), .int .i64 x] w (PutT b g S x w) := by
  have H := Kp.mk h
  clear h
  go_enter Try.func85, Try.ntmps85
  go_wp2_with fail
  refine (tall_any b g S _ H.out).mono ?_
  rintro e w1 ⟨rfl, rfl⟩
  go_wp2_with fail
  go_loopw [11] (fun i wr => ∃ k : Nat, k ≤ S.length ∧ i = .int .i64 k ∧ (∀ (j : Nat) (h : j < S.length), j < k → S[j].2 = true) ∧ TB b g S wr ∧ Kpt (fun k => k ≠ g) w wr) (fun i _ => S.length - (intOf i).toNat)
  case atStart => exact ⟨0, by omega, rfl, fun j _ h => by omega, H.out, Kpt.refl _ _⟩
  case round =>
    obtain ⟨k, hk, rfl, hh, ht, hkp⟩ := hrel
    have HH := Kp.mk hh
    have HT := Kp.mk ht
    have HK := Kp.mk hkp
    clear hh hkp
    by_cases hlt : k < S.length
    · obtain ⟨c1, c2⟩ := ht.cell hlt
      have f1 := ht.free (k * 2)
      have f2 := ht.free (k * 2 + 1)
      have c0 := blk_cell (i := 0) ht.hb rfl
      have q0 : (0 : Int) ≤ (k : Int) := by omega
      have q1 : (k : Int) < (S.length : Int) := by omega
      have HFR := Kp.mk (fun h => frI_at hlt HH.out h)
      have HNX := Kp.mk (fun (h : S[k].2 = true) => show ∀ (j : Nat) (hj : j < S.length), j < k + 1 → S[j].2 = true from fun j hj hjk => by
        by_cases hjk2 : j = k
        · subst hjk2; exact h
        · exact HH.out j hj (by omega))
      have HTA := Kp.mk (HT.out.below ((Below.refl wr.heap.size wr).alloc (Nat.le_refl _) (.cells #[.int .i64 S[k].1, .bool S[k].2] 132)))
      have HKA := Kp.mk (HK.out.alloc (.cells #[.int .i64 S[k].1, .bool S[k].2] 132))
      have hgz := blk_lt ht.hg
      have hbz := blk_lt ht.hb
      clear ht
      generalize S[k] = p at *
      obtain ⟨y, o⟩ := p
      dsimp only at c1 c2 HFR HNX HTA HKA
      cases o
      · have HF := Kp.mk (HFR.out rfl)
        go_wp2_with fail
        go_ret2
        have HS := Kp.mk ((HT.out.set hlt (x, true)).below ((Below.refl _ _).alloc (Nat.le_refl _) (.cells #[.int .i64 y, .bool false] 132)))
        refine ⟨by unfold putN putB; rw [HF.out]; simp [hlt], ?_, ((HK.out.setCell _ _ (by simp)).setCell _ _ (by simp)).alloc _⟩
        unfold putS
        rw [HF.out, if_pos hlt]
        exact HS.out
      · have HN := Kp.mk (HNX.out rfl)
        go_wp2_with fail
        go_roundw
        case rel => exact ⟨k + 1, by omega, by go_num, HN.out, HTA.out, HKA.out⟩
        case measure => simp [intOf]; omega
    · have HF := Kp.mk (frI_full fun j hj => HH.out j hj (by omega))
      go_wp2_with fail
      go_ret2
      refine ⟨by unfold putN putB; rw [HF.out]; simp, by unfold putS; rw [HF.out]; simpa using HT.out, HK.out⟩
end Go.Proofs.Ytgamekfickheaaa
