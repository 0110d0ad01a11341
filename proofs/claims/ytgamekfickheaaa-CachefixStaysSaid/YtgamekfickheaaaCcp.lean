/- What is said to caches (layer 21): what fields say, the document's. · What is said to caches (layer 21): Find, the document's. · What is said to caches (layer 21): Age, the document's; the law CacheAsks. · What is said to caches (layer 21): the law CacheAsks. -/
import Derived.Test.YtgamekfickheaaaCck
import Derived.Test.YtgamekfickheaaaCcg
import Derived.Test.YtgamekfickheaaaQs
import Derived.RegionTactic
import Derived.BigQuiet
namespace Go.Proofs.Ytgamekfickheaaa
open Go.RowKit
set_option linter.unusedVariables false
set_option linter.unusedSimpArgs false

end Go.Proofs.Ytgamekfickheaaa
namespace Go.Proofs.Ytgamekfickheaaa
open Go.RowKit
set_option linter.unusedVariables false
set_option linter.unusedSimpArgs false

def fdD (D : List Dir) (nm : ByteArray) : Dir := (D[fdN D nm]?).getD (⟨#[]⟩, ⟨#[]⟩, false)
def fdB (D : List Dir) (nm : ByteArray) : Bool := decide (fdN D nm < D.length)
theorem prs_low {v : ByteArray} : ∀ d ∈ prs v, lowB d.1 = d.1 := by
  intro d hd
  unfold prs at hd
  split at hd
  · obtain ⟨x, hx, rfl⟩ := List.mem_map.1 hd
    exact lowB_lowB _
  · cases hd
theorem fold_lowed {x nm : ByteArray} (h : lowB x = x) : foldB x nm = (x.toList == (lowB nm).toList) := by unfold foldB; rw [h]
theorem fd_at {D : List Dir} {nm : ByteArray} {k : Nat} (h : k < D.length) (hf : foldB D[k].1 nm = true) (hn : ∀ (j : Nat) (hj : j < D.length), j < k → foldB D[j].1 nm = false) : fdD D nm = D[k] ∧ fdB D nm = true := by
  have e : fdN D nm = k := (List.findIdx_eq h).2 ⟨hf, fun j hj => hn j (by omega) hj⟩
  unfold fdD fdB
  rw [e, List.getElem?_eq_getElem h]
  exact ⟨rfl, decide_eq_true h⟩
theorem fd_no {D : List Dir} {nm : ByteArray} (hn : ∀ (j : Nat) (hj : j < D.length), j < D.length → foldB D[j].1 nm = false) : fdD D nm = (⟨#[]⟩, ⟨#[]⟩, false) ∧ fdB D nm = false := by
  have e : fdN D nm = D.length := List.findIdx_eq_length.2 fun x hx => by
    obtain ⟨j, hj, rfl⟩ := List.getElem_of_mem hx
    exact hn j hj hj
  unfold fdD fdB
  rw [e, List.getElem?_eq_none (Nat.le_refl _)]
  exact ⟨rfl, decide_eq_false (Nat.lt_irrefl _)⟩
end Go.Proofs.Ytgamekfickheaaa
namespace Go.Proofs.Ytgamekfickheaaa
open Go.RowKit
set_option linter.unusedVariables false
set_option linter.unusedSimpArgs false

theorem quotedS_szD (x : ByteArray) : (quotedS x).size ≤ quotedN x := by
  unfold quotedS quotedN
  cases h : quotedL x.data.toList with
  | none => exact Nat.le_refl 0
  | some a =>
    obtain ⟨l, n⟩ := a
    simp only
    cases hl : x.data.toList with
    | nil => rw [hl] at h; simp [quotedL] at h
    | cons c r =>
      rw [hl] at h
      simp only [quotedL] at h
      split at h
      · have := qread_bound _ _ _ _ h
        rw [ba_size]; simp at this ⊢; omega
      · cases h
theorem vlD_size (x : ByteArray) : (vlD x).size ≤ x.size := by
  unfold vlD
  split
  · split
    · rw [upB_size, fromB_size]; omega
    · have h1 := quotedS_szD (fromB x (dN x + 1))
      have h2 := quotedN_le (fromB x (dN x + 1))
      rw [fromB_size] at h2
      omega
  · exact Nat.zero_le _
theorem prs_vals {v : ByteArray} : ∀ d ∈ prs v, d.2.1.size ≤ v.size := by
  intro d hd
  unfold prs at hd
  split at hd
  · obtain ⟨x, hx, rfl⟩ := List.mem_map.1 hd
    have h1 := vlD_size x
    have h2 := (splL_mem hx).2
    show (vlD x).size ≤ _
    omega
  · cases hd
theorem fdI_dec (D : List Dir) (nm : ByteArray) : decide (0 ≤ fdI D nm) = fdB D nm := by
  unfold fdI fdB
  by_cases h : fdN D nm < D.length
  · rw [if_pos h, decide_eq_true h]; exact decide_eq_true (by omega)
  · rw [if_neg h, decide_eq_false h]; rfl
theorem ageR_fd (D : List Dir) : ageR D = if fdB D nmMA = false then (0, false) else if numE 10 (fdD D nmMA).2.1 2147483647 = 0 then (numV 10 (fdD D nmMA).2.1 2147483647, true) else if numE 10 (fdD D nmMA).2.1 2147483647 = 5 then (2147483647, true) else (0, false) := by
  unfold ageR fdB fdD
  by_cases h : fdN D nmMA < D.length
  · rw [List.getElem?_eq_getElem h, decide_eq_true h]
    rfl
  · rw [List.getElem?_eq_none (by omega), decide_eq_false h]
    rfl
theorem fdD_val {D : List Dir} {nm : ByteArray} {m : Nat} (h : ∀ d ∈ D, d.2.1.size ≤ m) : (fdD D nm).2.1.size ≤ m := by
  unfold fdD
  by_cases hl : fdN D nm < D.length
  · rw [List.getElem?_eq_getElem hl]
    exact h _ (List.getElem_mem hl)
  · rw [List.getElem?_eq_none (by omega)]
    exact Nat.zero_le _
end Go.Proofs.Ytgamekfickheaaa
namespace Go.Proofs.Ytgamekfickheaaa
open Go.RowKit
set_option linter.unusedVariables false
set_option linter.unusedSimpArgs false

theorem ageR_no {D : List Dir} (h : fdB D nmMA = false) : ageR D = (0, false) := by rw [ageR_fd, if_pos h]
theorem ageR_yes {D : List Dir} (h : fdB D nmMA = true) : ageR D = if numE 10 (fdD D nmMA).2.1 2147483647 = 5 then (2147483647, true) else (numV 10 (fdD D nmMA).2.1 2147483647, (numE 10 (fdD D nmMA).2.1 2147483647 == 0)) := by
  rw [ageR_fd, if_neg (by rw [h]; decide)]
  generalize (fdD D nmMA).2.1 = s
  by_cases h0 : numE 10 s 2147483647 = 0
  · rw [if_pos h0, if_neg (by rw [h0]; decide), h0]; rfl
  · rw [if_neg h0]
    by_cases h5 : numE 10 s 2147483647 = 5
    · rw [if_pos h5, if_pos h5]
    · have hv : numV 10 s 2147483647 = 0 := if_neg h0
      rw [if_neg h5, if_neg h5, hv, beq_eq_false_iff_ne.2 h0]
theorem bb_sameE (b : Bool) : (b == b) = true := by cases b <;> rfl
theorem ii_sameE (r : Int) : (r == r) = true := by simp
theorem hlist_argE (v : Value) (w : World) (h : Arg Try.prog w 28 v) : ∃ l, RdF w v l ∧ ∀ p ∈ l, FldOk p :=
  h.list (f := fldC) (Q := FldOk) Try.underlying28 Try.fcellsFld (by omega) fun E hE =>
    fld_of Try.underlying35 Try.underlying9 Try.fcellsFld Try.fcellsFs ⟨_, rfl, rfl, rfl⟩ ⟨_, rfl, rfl, rfl⟩ hE
end Go.Proofs.Ytgamekfickheaaa
