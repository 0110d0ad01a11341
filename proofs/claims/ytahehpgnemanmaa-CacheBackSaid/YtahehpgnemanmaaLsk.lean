/- Lists (layer 7): what is parted, joined and parted again is the same. -/
import Derived.Test.YtahehpgnemanmaaLsj
import Derived.Test.YtahehpgnemanmaaLsh
import Derived.Test.YtahehpgnemanmaaHdf
namespace Go.Proofs.Ytahehpgnemanmaa
open Go.RowKit
set_option linter.unusedVariables false
set_option linter.unusedSimpArgs false

theorem splL_good {s x : ByteArray} (h : x ∈ splL s) : Good x.data.toList ∧ trimB x = x ∧ x.size ≠ 0 := by
  have h0 := (splL_mem h).1
  obtain ⟨i1, i2⟩ := ps_inv s s.size (Nat.le_refl _)
  by_cases hb : splB s = true
  · unfold splL at h
    rw [if_pos hb] at h
    obtain ⟨h1, _⟩ := someL_mem h
    rw [List.mem_map] at h1
    obtain ⟨r, hr, rfl⟩ := h1
    have hg : Good r.data.toList := by
      rw [List.mem_append, List.mem_singleton] at hr
      rcases hr with hr | rfl
      · exact i2 r hr
      · have hin := run3_inv _ (x := op3) (fun e => by cases e) i1
        have ho : in3 ((psAt s s.size).q, (psAt s s.size).p, (psAt s s.size).d) = false := by
          unfold splB at hb
          unfold in3
          simpa using hb
        have ho2 := inv3_open hin ho
        rw [ho2] at i1
        exact i1
    exact ⟨good_trim hg, trimB_trimB r, h0⟩
  · unfold splL at h
    rw [if_neg hb] at h
    cases h
theorem someL_all {l : List ByteArray} (h : ∀ x ∈ l, x.size ≠ 0) : someL l = l := by
  unfold someL
  rw [List.filter_eq_self]
  exact fun x hx => decide_eq_true (h x hx)
theorem map_trim (l : List ByteArray) : l.map trimB = (l.map (·.data.toList)).map fun x => (⟨(trimL x).toArray⟩ : ByteArray) := by
  rw [List.map_map]
  rfl
/-- P7.3. -/
theorem spl_again (s : ByteArray) : splB (hJoin (splL s)) = true ∧ splL (hJoin (splL s)) = splL s := by
  have hG := fun x (h : x ∈ splL s) => splL_good h
  generalize splL s = L at *
  cases L with
  | nil => exact ⟨by decide +kernel, by decide +kernel⟩
  | cons e R =>
    have hJ : (hJoin (e :: R)).data.toList = e.data.toList ++ tl2 (R.map (·.data.toList)) := by
      unfold hJoin
      rw [List.map_cons, Lib.join_cons]
      simp [tl2]
    obtain ⟨fr, out, q1, q2⟩ := ps_join e.data.toList (R.map (·.data.toList)) (hJoin (e :: R)) hJ (hG e (List.mem_cons_self ..)).1 (fun r hr => by
      rw [List.mem_map] at hr
      obtain ⟨x, hx, rfl⟩ := hr
      exact (hG x (List.mem_cons_of_mem _ hx)).1)
    obtain ⟨g1, g2⟩ := spl_open q1
    refine ⟨g1, ?_⟩
    rw [g2, map_trim, q2]
    have hm : ((e.data.toList :: (R.map (·.data.toList)).map (32 :: ·)).map fun x => (⟨(trimL x).toArray⟩ : ByteArray)) = e :: R := by
      rw [List.map_cons, List.map_map, List.map_map]
      congr 1
      · exact (hG e (List.mem_cons_self ..)).2.1
      · refine (List.map_congr_left fun x hx => ?_).trans (List.map_id R)
        show (⟨(trimL (32 :: x.data.toList)).toArray⟩ : ByteArray) = x
        rw [trimL_blank]
        exact (hG x (List.mem_cons_of_mem _ hx)).2.1
    rw [hm]
    exact someL_all fun x hx => (hG x hx).2.2
theorem hasB_me {s x : ByteArray} (h : x ∈ splL s) : hasB s x = true := List.any_eq_true.2 ⟨x, h, by simp [foldB]⟩
end Go.Proofs.Ytahehpgnemanmaa
