/- Lists (layer 7): what is closed in; the document's. · Lists (layer 7): Split, the document's. · Lists (layer 7): whether a list has a word, on both sides. -/
import Derived.Test.YtgamekfickheaaaLsb
import Derived.Test.YtgamekfickheaaaProg
import Derived.Test.YtgamekfickheaaaGb
import Derived.Test.YtgamekfickheaaaLse
import Derived.Test.YtgamekfickheaaaKeeps
namespace Go.Proofs.Ytgamekfickheaaa
open Go.RowKit
set_option linter.unusedVariables false
set_option linter.unusedSimpArgs false

def BehT (s : ByteArray) (at_ fr : Nat) (out : List ByteArray) (w : World) (e : Ending) (w' : World) : Prop :=
  w = w' ∧ ((∃ j : Nat, at_ < j ∧ j ≤ s.size ∧ e = .returned (.int .i64 j) ∧ psAt s j = ⟨false, false, 0, fr, out⟩) ∨ (e = .returned (.int .i64 (-1)) ∧ psIn (psAt s s.size).q (psAt s s.size).d = true))
def QSt (s : ByteArray) (at_ fr : Nat) (out : List ByteArray) (k : Nat) : Prop :=
  (k = at_ ∧ bt s k = 34 ∧ psAt s k = ⟨false, false, 0, fr, out⟩) ∨ (at_ < k ∧ k ≤ s.size ∧ psAt s k = ⟨true, false, 0, fr, out⟩) ∨ (at_ < k ∧ k = s.size + 1 ∧ psIn (psAt s s.size).q (psAt s s.size).d = true)
def DSt (s : ByteArray) (at_ fr : Nat) (out : List ByteArray) (k d : Nat) : Prop :=
  (k = at_ ∧ d = 0 ∧ bt s k = 40 ∧ psAt s k = ⟨false, false, 0, fr, out⟩) ∨ (at_ < k ∧ k ≤ s.size ∧ 0 < d ∧ d ≤ k ∧ psAt s k = ⟨false, false, d, fr, out⟩) ∨ (at_ < k ∧ k = s.size + 1 ∧ psIn (psAt s s.size).q (psAt s s.size).d = true)
end Go.Proofs.Ytgamekfickheaaa
namespace Go.Proofs.Ytgamekfickheaaa
open Go.RowKit
set_option linter.unusedVariables false
set_option linter.unusedSimpArgs false

theorem rds_cells2 {w : World} {a : Option Addr} {c n : Nat} {l : List ByteArray} (h : RdS w (.slice a n c) l) (h0 : 0 < l.length) : ∃ b o, a = some ⟨b, o, none⟩ ∧ b < w.heap.size ∧ ∀ (j : Nat) (h : j < l.length), w.cell? ⟨b, o + j, none⟩ = some (.string l[j]) := rds_cells h h0
theorem someL_take {L : List ByteArray} {k : Nat} (h : k < L.length) : someL ((L.take (k + 1)).map trimB) = someL ((L.take k).map trimB) ++ (if (trimB L[k]).size ≠ 0 then [trimB L[k]] else []) := by
  rw [take_snocB _ _ h, List.map_append]
  exact someL_snoc _ _
def somT (L : List ByteArray) (k : Nat) : List ByteArray := someL ((L.take k).map trimB)
theorem somT_take {L : List ByteArray} {k : Nat} (h : k < L.length) : somT L (k + 1) = somT L k ++ (if (trimB L[k]).size ≠ 0 then [trimB L[k]] else []) := someL_take h
theorem somT_len (L : List ByteArray) (k : Nat) : (somT L k).length ≤ L.length := by
  have := someL_len ((L.take k).map trimB)
  rw [List.length_map, List.length_take] at this
  unfold somT
  omega
theorem somT_all {L : List ByteArray} {k : Nat} (h : L.length ≤ k) : somT L k = someL (L.map trimB) := by unfold somT; rw [List.take_of_length_le h]
end Go.Proofs.Ytgamekfickheaaa
namespace Go.Proofs.Ytgamekfickheaaa
open Go.RowKit
set_option linter.unusedVariables false
set_option linter.unusedSimpArgs false

theorem someL_mem {l : List ByteArray} {x : ByteArray} (h : x ∈ someL l) : x ∈ l ∧ x.size ≠ 0 := by
  unfold someL at h
  rw [List.mem_filter] at h
  exact ⟨h.1, of_decide_eq_true h.2⟩
theorem splL_mem {s x : ByteArray} (h : x ∈ splL s) : x.size ≠ 0 ∧ x.size ≤ s.size := by
  unfold splL at h
  split at h
  · obtain ⟨h1, h2⟩ := someL_mem h
    refine ⟨h2, ?_⟩
    rw [List.mem_map] at h1
    obtain ⟨r, hr, rfl⟩ := h1
    have h3 := trimB_size r
    rw [List.mem_append, List.mem_singleton] at hr
    rcases hr with hr | rfl
    · have := psAt_sm s s.size (Nat.le_refl _) r hr
      omega
    · simp at h3
      omega
  · cases h
theorem splL_len (s : ByteArray) : (splL s).length ≤ s.size + 1 := by
  have := psAt_out s s.size
  unfold splL
  split
  · refine Nat.le_trans (someL_len _) ?_
    rw [List.length_map, List.length_append]
    simp
    omega
  · simp
def hasL (word : ByteArray) (l : List ByteArray) : Bool := l.any fun x => foldB x word
/-- P7.2. -/
def hasB (s word : ByteArray) : Bool := hasL word (splL s)
theorem hasL_take {x : ByteArray} {l : List ByteArray} {k : Nat} (h : k < l.length) : hasL x (l.take (k + 1)) = (hasL x (l.take k) || foldB l[k] x) := by
  unfold hasL
  rw [List.take_succ_eq_append_getElem h, List.any_append]
  simp
theorem hasL_hit {x : ByteArray} {l : List ByteArray} {k : Nat} (h : k < l.length) (hf : foldB l[k] x = true) : hasL x l = true := List.any_eq_true.2 ⟨_, List.getElem_mem h, hf⟩
set_option maxRecDepth 100000 in
set_option maxHeartbeats 1000000 in
theorem has_any (s word : ByteArray) (w : World) (hs : s.size ≤ 200000000) (hw : word.size ≤ 200000000) :
    Calls Try.prog 128 #[.string s, .string word] w fun e w' => e = .returned (.bool (hasB s word)) ∧ Below w.heap.size w w' := by
  have HM := Kp.mk (fun x (h : x ∈ splL s) => (splL_mem h).2)
  have hln := splL_len s
  have HD := Kp.mk (show hasB s word = hasL word (splL s) from rfl)
  go_enter Try.func128, Try.ntmps128
  go_wp2_with fail
  refine (split_any s _ (by omega)).mono ?_
  rintro e w1 ⟨v, rfl, ho, hb1⟩
  have HR := Kp.mk (rds_own ho)
  have HB1 := Kp.mk hb1
  obtain ⟨a, c, rfl⟩ := own_lenH ho
  clear ho hb1
  generalize splL s = L at *
  generalize splB s = b at *
  go_wp2_with fail
  go_loopw [16] (fun i wr => ∃ k : Nat, k ≤ L.length ∧ i = .int .i64 k ∧ hasL word (L.take k) = false ∧ Below w1.heap.size w1 wr) (fun i _ => L.length - (intOf i).toNat)
  case atStart => exact ⟨0, by omega, rfl, rfl, Below.refl _ _⟩
  case round =>
    obtain ⟨k, hk, rfl, hh, hb⟩ := hrel
    have HB := Kp.mk hb
    have HH := Kp.mk hh
    have HBW := Kp.mk (HB1.out.trans (hb.mono HB1.out.size))
    clear hh hb
    by_cases hlt : k < L.length
    · obtain ⟨g, o, rfl, hgl, d0⟩ := rds_cells (HR.out.below HB.out) (by omega)
      have c1 := d0 k hlt
      have m1 := HM.out L[k] (List.getElem_mem hlt)
      have q0 : (0 : Int) ≤ (k : Int) := by omega
      have q1 : (k : Int) < (L.length : Int) := by omega
      have HT := Kp.mk (hasL_take (x := word) hlt)
      have HHit := Kp.mk (hasL_hit (x := word) hlt)
      clear d0
      generalize L[k] = x at *
      go_wp2_with fail
      refine (oct_fold_any x word _ (by omega) (by omega)).mono ?_
      rintro e w2 ⟨rfl, hb2⟩
      have HB2 := Kp.mk (HB.out.trans (hb2.mono HB.out.size))
      have HBW2 := Kp.mk (HBW.out.trans (hb2.mono HBW.out.size))
      clear hb2
      cases hf : foldB x word
      · have HT2 := Kp.mk (show hasL word (L.take (k + 1)) = false by rw [HT.out, hf, HH.out]; rfl)
        go_wp2_with fail
        go_roundw
        case rel => exact ⟨k + 1, by omega, by go_num, HT2.out, HB2.out⟩
        case measure => simp [intOf]; omega
      · have HT2 := Kp.mk (HHit.out hf)
        go_wp2_with fail
        go_ret
        exact ⟨by rw [HD.out, HT2.out]; rfl, HBW2.out⟩
    · have HK := Kp.mk (show hasL word L = false by have := HH.out; rwa [List.take_of_length_le (by omega)] at this)
      go_wp2_with fail
      go_ret
      exact ⟨by rw [HD.out, HK.out]; rfl, HBW.out⟩
end Go.Proofs.Ytgamekfickheaaa
