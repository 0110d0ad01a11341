/- The parts of octets as a recursion over lists, with what stands behind (plain functions alone). -/
import Derived.Test.YtkfpioadimkogaaDoorLsj
namespace Go.Proofs.YtkfpioadimkogaaDoor
open Go.RowKit
set_option linter.unusedVariables false
set_option linter.unusedSimpArgs false

/-- The parts of octets, from a state on, with what the part begun holds. -/
def sp : S3 → List UInt8 → List UInt8 → List (List UInt8) × S3
  | x, cur, [] => ([cur], x)
  | x, cur, c :: r => if in3 (st3 x c.toNat) = true ∨ c.toNat ≠ 44 then sp (st3 x c.toNat) (cur ++ [c]) r else (cur :: (sp (st3 x c.toNat) [] r).1, (sp (st3 x c.toNat) [] r).2)
theorem sp_ps (s : ByteArray) : ∀ (n i : Nat), i + n = s.size → ∀ {q p : Bool} {d fr : Nat} {out : List ByteArray}, psAt s i = ⟨q, p, d, fr, out⟩ → fr ≤ i →
    ((psAt s s.size).out ++ [s.extract (psAt s s.size).fr s.size]).map (·.data.toList) = out.map (·.data.toList) ++ (sp (q, p, d) (seg s fr i) (s.data.toList.drop i)).1 ∧
      ((psAt s s.size).q, (psAt s s.size).p, (psAt s s.size).d) = (sp (q, p, d) (seg s fr i) (s.data.toList.drop i)).2
  | 0, i, hi, q, p, d, fr, out, h, hfr => by
    have hs : i = s.size := by omega
    subst hs
    rw [List.drop_of_length_le (by rw [len_data]; exact Nat.le_refl _), h]
    simp [sp, seg]
  | n + 1, i, hi, q, p, d, fr, out, h, hfr => by
    have hl : i < s.data.toList.length := by rw [len_data]; omega
    have hb := bt_list s i (by omega)
    obtain ⟨c, hc, hseg⟩ := seg_snoc hfr (show i < s.size by omega)
    have hcc : c = s.data.toList[i] := UInt8.toNat_inj.1 (hc.trans hb.symm)
    rw [List.drop_eq_getElem_cons hl, sp, ← hcc, hc]
    have h2 := ps_go h
    by_cases hw : psIn (seeQ q p d (bt s i)) (seeD q p d (bt s i)) = true ∨ bt s i ≠ 44
    · rw [if_pos hw] at h2
      have ih := sp_ps s n (i + 1) (by omega) h2 (by omega)
      rw [if_pos (show in3 (st3 (q, p, d) (bt s i)) = true ∨ bt s i ≠ 44 from hw)]
      rw [hseg] at ih
      exact ih
    · rw [if_neg hw] at h2
      have ih := sp_ps s n (i + 1) (by omega) h2 (Nat.le_refl _)
      rw [if_neg (show ¬ (in3 (st3 (q, p, d) (bt s i)) = true ∨ bt s i ≠ 44) from hw)]
      have hs0 : seg s (i + 1) (i + 1) = [] := by rw [seg_eq]; simp
      rw [hs0] at ih
      refine ⟨?_, ih.2⟩
      rw [ih.1, List.map_append, List.append_assoc]
      rfl
def somP (P : List (List UInt8)) : List ByteArray := someL (P.map fun l => ⟨(trimL l).toArray⟩)
theorem spl_sp (s : ByteArray) : splB s = !in3 (sp op3 [] s.data.toList).2 ∧ splL s = if splB s = true then somP (sp op3 [] s.data.toList).1 else [] := by
  have h := sp_ps s s.size 0 (by omega) (show psAt s 0 = ⟨false, false, 0, 0, []⟩ from rfl) (Nat.le_refl _)
  have hs0 : seg s 0 0 = [] := by rw [seg_eq]; simp
  rw [hs0, List.drop_zero, List.map_nil, List.nil_append] at h
  have h1 : (sp op3 [] s.data.toList).2 = ((psAt s s.size).q, (psAt s s.size).p, (psAt s s.size).d) := h.2.symm
  refine ⟨by rw [h1]; rfl, ?_⟩
  unfold splL somP
  have h2 : (sp op3 [] s.data.toList).1 = ((psAt s s.size).out ++ [s.extract (psAt s s.size).fr s.size]).map (·.data.toList) := h.1.symm
  rw [h2, List.map_map]
  rfl
theorem sp_app : ∀ (a b : List UInt8) (x : S3) (cur : List UInt8), ∃ I l y, sp x cur a = (I ++ [l], y) ∧ sp x cur (a ++ b) = (I ++ (sp y l b).1, (sp y l b).2)
  | [], b, x, cur => ⟨[], cur, x, rfl, rfl⟩
  | c :: a, b, x, cur => by
    rw [List.cons_append, sp, sp]
    split
    · exact sp_app a b _ _
    · obtain ⟨I, l, y, h1, h2⟩ := sp_app a b (st3 x c.toNat) []
      exact ⟨cur :: I, l, y, by rw [h1]; rfl, by rw [h2]; rfl⟩
theorem sp_head : ∀ (b : List UInt8) (x : S3) (cur : List UInt8), ∃ t R, (sp x cur b).1 = (cur ++ t) :: R
  | [], x, cur => ⟨[], [], by rw [List.append_nil]; rfl⟩
  | c :: b, x, cur => by
    rw [sp]
    split
    · obtain ⟨t, R, h⟩ := sp_head b (st3 x c.toNat) (cur ++ [c])
      exact ⟨c :: t, R, by rw [h, List.append_assoc]; rfl⟩
    · exact ⟨[], _, by rw [List.append_nil]⟩
theorem sp_pre : ∀ (b a : List UInt8) (x : S3) (cur : List UInt8), ∃ p R y, sp x cur b = (p :: R, y) ∧ sp x (a ++ cur) b = ((a ++ p) :: R, y)
  | [], a, x, cur => ⟨cur, [], x, rfl, rfl⟩
  | c :: b, a, x, cur => by
    rw [sp, sp]
    split
    · obtain ⟨p, R, y, h1, h2⟩ := sp_pre b a (st3 x c.toNat) (cur ++ [c])
      refine ⟨p, R, y, h1, ?_⟩
      rw [List.append_assoc]
      exact h2
    · exact ⟨cur, _, _, rfl, rfl⟩
theorem sp_inv : ∀ (b : List UInt8) (x : S3) (cur : List UInt8), inv3 x → inv3 (sp x cur b).2
  | [], x, cur, h => h
  | c :: b, x, cur, h => by
    rw [sp]
    split
    · exact sp_inv b _ _ (st3_inv _ h)
    · exact sp_inv b _ _ (st3_inv _ h)
theorem trimL_x (t : List UInt8) : trimL (32 :: 120 :: t) ≠ [] := by
  intro h
  obtain ⟨p, q, e, hp, hq, _⟩ := trimL_part (32 :: 120 :: t)
  rw [h, List.append_nil] at e
  have hm : (120 : UInt8) ∈ p ++ q := by rw [← e]; simp
  have hb : blankC 120 = true := by
    rw [List.mem_append] at hm
    rcases hm with hm | hm
    · exact hp _ hm
    · exact hq _ hm
  revert hb
  decide
theorem somP_app (A B : List (List UInt8)) : somP (A ++ B) = somP A ++ somP B := by
  unfold somP someL
  rw [List.map_append, List.filter_append]
theorem somP_cons (l : List UInt8) (R : List (List UInt8)) (h : trimL l ≠ []) : somP (l :: R) = ⟨(trimL l).toArray⟩ :: somP R := by
  unfold somP someL
  rw [List.map_cons, List.filter_cons, if_pos]
  rw [decide_eq_true_eq]
  intro h0
  exact h (List.eq_nil_of_length_eq_zero ((len_data ⟨(trimL l).toArray⟩).trans h0))
/-- An element behind that begins with x. -/
theorem spl_behind {s v : ByteArray} {w : List UInt8} (h : s.data.toList = v.data.toList ++ (44 :: 32 :: 120 :: w)) (hv : splB v = true) : splB s = false ∨ ∃ B, B ≠ [] ∧ splL s = splL v ++ B := by
  obtain ⟨v1, v2⟩ := spl_sp v
  obtain ⟨s1, s2⟩ := spl_sp s
  rw [if_pos hv] at v2
  cases hs : splB s
  · exact .inl rfl
  · right
    rw [if_pos hs] at s2
    obtain ⟨I, l, y, h1, h2⟩ := sp_app v.data.toList (44 :: 32 :: 120 :: w) op3 []
    have hy : y = op3 := by
      refine inv3_open ?_ ?_
      · have := sp_inv v.data.toList op3 [] (fun e => by cases e)
        rw [h1] at this
        exact this
      · rw [h1, hv] at v1
        simpa using v1.symm
    subst hy
    have e1 : sp op3 l (44 :: 32 :: 120 :: w) = (l :: (sp op3 [32, 120] w).1, (sp op3 [32, 120] w).2) := rfl
    obtain ⟨t, R, h3⟩ := sp_head w op3 [32, 120]
    rw [h, h2, e1, h3] at s2
    rw [h1] at v2
    dsimp only at s2 v2
    refine ⟨somP (([32, 120] ++ t) :: R), ?_, ?_⟩
    · show somP ((32 :: 120 :: t) :: R) ≠ []
      rw [somP_cons _ _ (trimL_x t)]
      simp
    · rw [s2, v2, ← somP_app, List.append_assoc]
      rfl
end Go.Proofs.YtkfpioadimkogaaDoor
