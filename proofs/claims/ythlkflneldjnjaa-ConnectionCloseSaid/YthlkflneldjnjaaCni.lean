/- Lists (layer 7): what is within stays within where nothing closes; an element behind what is whole (plain functions alone). -/
import Derived.Test.YthlkflneldjnjaaLsj
namespace Go.Proofs.Ythlkflneldjnjaa
open Go.RowKit
set_option linter.unusedVariables false
set_option linter.unusedSimpArgs false

theorem see_stays {q p : Bool} {d c : Nat} (h : psIn q d = true) (h1 : c ≠ 34) (h2 : c ≠ 41) : psIn (seeQ q p d c) (seeD q p d c) = true := by
  unfold psIn at *
  unfold seeQ seeD
  cases p
  · simp only [h1, h2, false_and, if_false]
    split
    · simpa using h
    · split
      · rename_i hc
        obtain ⟨_, hq⟩ := hc
        simp [hq]
      · have h' : q = true ∨ 0 < d := by simpa using h
        rw [Bool.or_eq_true, decide_eq_true_eq]
        rcases h' with h' | h'
        · exact .inl h'
        · right
          split <;> omega
  · simpa using h
theorem within_tail : ∀ (R X : List UInt8) (s : ByteArray), s.data.toList = X ++ R → (∀ c ∈ R, c.toNat ≠ 34 ∧ c.toNat ≠ 41) → psIn (psAt s X.length).q (psAt s X.length).d = true → psIn (psAt s s.size).q (psAt s s.size).d = true
  | [], X, s, h, _, hp => by
    have hs : s.size = X.length := by rw [← len_data, h]; simp
    rw [hs]
    exact hp
  | c :: R, X, s, h, hc, hp => by
    obtain ⟨hl, hb⟩ := bt_mid h
    obtain ⟨c1, c2⟩ := hc c (List.mem_cons_self ..)
    have e : (X ++ [c]).length = X.length + 1 := by simp
    refine within_tail R (X ++ [c]) s (by rw [h]; simp) (fun d hd => hc d (List.mem_cons_of_mem _ hd)) ?_
    rw [e]
    obtain ⟨x, hx⟩ : ∃ x, psAt s X.length = x := ⟨_, rfl⟩
    obtain ⟨q, p, d, fr, out⟩ := x
    rw [hx] at hp
    dsimp only at hp
    have hst := see_stays (p := p) (c := bt s X.length) hp (by rw [hb]; exact c1) (by rw [hb]; exact c2)
    rw [ps_go hx, if_pos (.inl hst)]
    exact hst
/-- With one element more behind: it is an element, or what is ahead doesn't end. -/
theorem spl_more {s : ByteArray} {X e : List UInt8} (h : s.data.toList = X ++ (44 :: 32 :: e)) (hg : Good e) (hc : ∀ c ∈ e, c.toNat ≠ 34 ∧ c.toNat ≠ 41) (ht : trimL e = e) (hn : e ≠ []) :
    splB s = false ∨ (⟨e.toArray⟩ : ByteArray) ∈ splL s := by
  have hz : X.length ≤ s.size := by rw [← len_data, h]; simp
  obtain ⟨i1, _⟩ := ps_inv s X.length hz
  obtain ⟨x, hx⟩ : ∃ x, psAt s X.length = x := ⟨_, rfl⟩
  obtain ⟨q, p, d, fr, out⟩ := x
  rw [hx] at i1
  dsimp only at i1
  have hinv := run3_inv _ (x := op3) (fun e => by cases e) i1
  cases hin : psIn q d
  · right
    have ho := inv3_open hinv hin
    unfold op3 at ho
    rw [Prod.mk.injEq, Prod.mk.injEq] at ho
    obtain ⟨rfl, rfl, rfl⟩ := ho
    have h2 : s.data.toList = X ++ tl2 [e] := by rw [h, tl2_cons]; simp [tl2, Lib.joinTail]
    obtain ⟨fr', out', q1, q2⟩ := ps_tail [e] X s fr out h2 hx (fun r hr => by rw [List.mem_singleton] at hr; subst hr; exact hg)
    obtain ⟨_, g2⟩ := spl_open q1
    rw [g2]
    have hl : ∃ r ∈ out' ++ [s.extract fr' s.size], r.data.toList = 32 :: e := by
      have hm : (32 :: e) ∈ (out' ++ [s.extract fr' s.size]).map (·.data.toList) := by
        rw [q2]
        simp
      rw [List.mem_map] at hm
      exact hm
    obtain ⟨r, hr, hre⟩ := hl
    unfold someL
    rw [List.mem_filter]
    have hte : trimB r = ⟨e.toArray⟩ := by
      unfold trimB
      rw [hre, trimL_blank, ht]
    refine ⟨List.mem_map.2 ⟨r, hr, hte⟩, ?_⟩
    rw [decide_eq_true_eq]
    intro h0
    exact hn (List.eq_nil_of_length_eq_zero ((len_data ⟨e.toArray⟩).trans h0))
  · left
    have hw := within_tail (44 :: 32 :: e) X s h (fun c hcm => by
      rw [List.mem_cons, List.mem_cons] at hcm
      rcases hcm with rfl | rfl | hcm
      · decide
      · decide
      · exact hc c hcm) (by rw [hx]; exact hin)
    exact (spl_within hw).1
end Go.Proofs.Ythlkflneldjnjaa
