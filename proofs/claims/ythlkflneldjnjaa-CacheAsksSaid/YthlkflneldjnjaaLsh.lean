/- Lists (layer 7): whether a list has a word, on both sides. -/
import Derived.Test.YthlkflneldjnjaaLsg
import Derived.Test.YthlkflneldjnjaaKeeps
namespace Go.Proofs.Ythlkflneldjnjaa
open Go.RowKit
set_option linter.unusedVariables false
set_option linter.unusedSimpArgs false

theorem someL_mem {l : List ByteArray} {x : ByteArray} (h : x ∈ someL l) : x ∈ l ∧ x.size ≠ 0 := by
  unfold someL at h
  rw [List.mem_filter] at h
  exact ⟨h.1, of_decide_eq_true h.2⟩
theorem splL_mem {s x : ByteArray} (h : x ∈ splL s) : x.size ≠ 0 ∧ x.size ≤ s.size := by
  unfold splL at h
  split at h
  · obtain ⟨h1, h2⟩ := someL_mem h
    refine ⟨h2, ?_⟩
    rw [List.mem_map] at h1
    obtain ⟨r, hr, rfl⟩ := h1
    have h3 := trimB_size r
    rw [List.mem_append, List.mem_singleton] at hr
    rcases hr with hr | rfl
    · have := psAt_sm s s.size (Nat.le_refl _) r hr
      omega
    · simp at h3
      omega
  · cases h
theorem splL_len (s : ByteArray) : (splL s).length ≤ s.size + 1 := by
  have := psAt_out s s.size
  unfold splL
  split
  · refine Nat.le_trans (someL_len _) ?_
    rw [List.length_map, List.length_append]
    simp
    omega
  · simp
def hasL (word : ByteArray) (l : List ByteArray) : Bool := l.any fun x => foldB x word
/-- P7.2. -/
def hasB (s word : ByteArray) : Bool := hasL word (splL s)
theorem hasL_take {x : ByteArray} {l : List ByteArray} {k : Nat} (h : k < l.length) : hasL x (l.take (k + 1)) = (hasL x (l.take k) || foldB l[k] x) := by
  unfold hasL
  rw [List.take_succ_eq_append_getElem h, List.any_append]
  simp
theorem hasL_hit {x : ByteArray} {l : List ByteArray} {k : Nat} (h : k < l.length) (hf : foldB l[k] x = true) : hasL x l = true := List.any_eq_true.2 ⟨_, List.getElem_mem h, hf⟩
set_option maxRecDepth 100000 in
set_option maxHeartbeats 1000000 in
theorem has_any (s word : ByteArray) (w : World) (hs : s.size ≤ 200000000) (hw : word.size ≤ 200000000) :
    Calls Try.prog 88 #[.string s, .string word] w fun e w' => e = .returned (.bool (hasB s word)) ∧ Below w.heap.size w w' := by
  have HM := Kp.mk (fun x (h : x ∈ splL s) => (splL_mem h).2)
  have hln := splL_len s
  have HD := Kp.mk (show hasB s word = hasL word (splL s) from rfl)
  go_enter Try.func88, Try.ntmps88
  go_wp2_with fail
  refine (split_any s _ (by omega)).mono ?_
  rintro e w1 ⟨v, rfl, ho, hb1⟩
  have HR := Kp.mk (rds_own ho)
  have HB1 := Kp.mk hb1
  obtain ⟨a, c, rfl⟩ := own_lenH ho
  clear ho hb1
  generalize splL s = L at *
  generalize splB s = b at *
  go_wp2_with fail
  go_loopw [16] (fun i wr => ∃ k : Nat, k ≤ L.length ∧ i = .int .i64 k ∧ hasL word (L.take k) = false ∧ Below w1.heap.size w1 wr) (fun i _ => L.length - (intOf i).toNat)
  case atStart => exact ⟨0, by omega, rfl, rfl, Below.refl _ _⟩
  case round =>
    obtain ⟨k, hk, rfl, hh, hb⟩ := hrel
    have HB := Kp.mk hb
    have HH := Kp.mk hh
    have HBW := Kp.mk (HB1.out.trans (hb.mono HB1.out.size))
    clear hh hb
    by_cases hlt : k < L.length
    · obtain ⟨g, o, rfl, hgl, d0⟩ := rds_cells (HR.out.below HB.out) (by omega)
      have c1 := d0 k hlt
      have m1 := HM.out L[k] (List.getElem_mem hlt)
      have q0 : (0 : Int) ≤ (k : Int) := by omega
      have q1 : (k : Int) < (L.length : Int) := by omega
      have HT := Kp.mk (hasL_take (x := word) hlt)
      have HHit := Kp.mk (hasL_hit (x := word) hlt)
      clear d0
      generalize L[k] = x at *
      go_wp2_with fail
      refine (oct_fold_any x word _ (by omega) (by omega)).mono ?_
      rintro e w2 ⟨rfl, hb2⟩
      have HB2 := Kp.mk (HB.out.trans (hb2.mono HB.out.size))
      have HBW2 := Kp.mk (HBW.out.trans (hb2.mono HBW.out.size))
      clear hb2
      cases hf : foldB x word
      · have HT2 := Kp.mk (show hasL word (L.take (k + 1)) = false by rw [HT.out, hf, HH.out]; rfl)
        go_wp2_with fail
        go_roundw
        case rel => exact ⟨k + 1, by omega, by go_num, HT2.out, HB2.out⟩
        case measure => simp [intOf]; omega
      · have HT2 := Kp.mk (HHit.out hf)
        go_wp2_with fail
        go_ret
        exact ⟨by rw [HD.out, HT2.out]; rfl, HBW2.out⟩
    · have HK := Kp.mk (show hasL word L = false by have := HH.out; rwa [List.take_of_length_le (by omega)] at this)
      go_wp2_with fail
      go_ret
      exact ⟨by rw [HD.out, HK.out]; rfl, HBW.out⟩
set_option maxRecDepth 100000 in
set_option maxHeartbeats 1000000 in
theorem rhas_any (s word : ByteArray) (w : World) (hs : s.size ≤ 200000000) (hw : word.size ≤ 200000000) :
    Calls Try.prog 89 #[.string s, .string word] w fun e w' => e = .returned (.bool (hasB s word)) ∧ Below w.heap.size w w' := by
  have HM := Kp.mk (fun x (h : x ∈ splL s) => (splL_mem h).2)
  have hln := splL_len s
  have HD := Kp.mk (show hasB s word = hasL word (splL s) from rfl)
  go_enter Try.func89, Try.ntmps89
  go_wp2_with fail
  refine (rsplit_any s _ (by omega)).mono ?_
  rintro e w1 ⟨v, rfl, ho, hb1⟩
  have HR := Kp.mk (rds_own ho)
  have HB1 := Kp.mk hb1
  obtain ⟨a, c, rfl⟩ := own_lenH ho
  clear ho hb1
  generalize splL s = L at *
  generalize splB s = b at *
  go_wp2_with fail
  go_loopw [7] (fun i wr => ∃ k : Nat, k ≤ L.length ∧ i = .int .i64 k ∧ hasL word (L.take k) = false ∧ Below w1.heap.size w1 wr) (fun i _ => L.length - (intOf i).toNat)
  case atStart => exact ⟨0, by omega, rfl, rfl, Below.refl _ _⟩
  case round =>
    obtain ⟨k, hk, rfl, hh, hb⟩ := hrel
    have HB := Kp.mk hb
    have HH := Kp.mk hh
    have HBW := Kp.mk (HB1.out.trans (hb.mono HB1.out.size))
    clear hh hb
    by_cases hlt : k < L.length
    · obtain ⟨g, o, rfl, hgl, d0⟩ := rds_cells (HR.out.below HB.out) (by omega)
      have c1 := d0 k hlt
      have m1 := HM.out L[k] (List.getElem_mem hlt)
      have q0 : (0 : Int) ≤ (k : Int) := by omega
      have q1 : (k : Int) < (L.length : Int) := by omega
      have HT := Kp.mk (hasL_take (x := word) hlt)
      have HHit := Kp.mk (hasL_hit (x := word) hlt)
      clear d0
      generalize L[k] = x at *
      have HF := Kp.mk (show ((lowB x).toList == (lowB word).toList) = foldB x word from rfl)
      go_wp2_with fail
      refine (ref_lower_any x _ (by omega)).mono ?_
      rintro e w2 ⟨rfl, hb2⟩
      have HB2 := Kp.mk (HB.out.trans (hb2.mono HB.out.size))
      have HBW2 := Kp.mk (HBW.out.trans (hb2.mono HBW.out.size))
      clear hb2
      go_wp2_with fail
      refine (ref_lower_any word _ (by omega)).mono ?_
      rintro e w3 ⟨rfl, hb3⟩
      have HB3 := Kp.mk (HB2.out.trans (hb3.mono HB2.out.size))
      have HBW3 := Kp.mk (HBW2.out.trans (hb3.mono HBW2.out.size))
      clear hb3
      cases hf : foldB x word
      · have HT2 := Kp.mk (show hasL word (L.take (k + 1)) = false by rw [HT.out, hf, HH.out]; rfl)
        have hq := HF.out.trans hf
        go_wp2_with fail
        go_roundw
        case rel => exact ⟨k + 1, by omega, by go_num, HT2.out, HB3.out⟩
        case measure => simp [intOf]; omega
      · have HT2 := Kp.mk (HHit.out hf)
        have hq := HF.out.trans hf
        go_wp2_with fail
        go_ret
        exact ⟨by rw [HD.out, HT2.out]; rfl, HBW3.out⟩
    · have HK := Kp.mk (show hasL word L = false by have := HH.out; rwa [List.take_of_length_le (by omega)] at this)
      go_wp2_with fail
      go_ret
      exact ⟨by rw [HD.out, HK.out]; rfl, HBW.out⟩
end Go.Proofs.Ythlkflneldjnjaa
