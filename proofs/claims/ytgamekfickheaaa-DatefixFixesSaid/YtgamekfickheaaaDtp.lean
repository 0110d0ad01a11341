/- Dates of fields (layer 6), plain: what each of the three patterns takes of a text, said octet by octet. -/
import Derived.Test.YtgamekfickheaaaDtj
import Derived.Test.YtgamekfickheaaaDtn
namespace Go.Proofs.Ytgamekfickheaaa
open Go.RowKit
set_option linter.unusedVariables false
set_option linter.unusedSimpArgs false

theorem allS_iff {c : UInt8} {cs : List UInt8} {f g : Fd} : allS (c :: cs) f = some g ↔ ∃ f', oneS c.toNat f = some f' ∧ allS cs f' = some g := by
  rw [allS]
  cases oneS c.toNat f with
  | none => simp
  | some f' => simp
theorem wdI_lt {n : Nat} {l : List UInt8} {j : Nat} (h : wdI n l = some j) : j < 7 := by
  unfold wdI at h
  have := List.mem_of_find?_eq_some h
  simpa using this
theorem moI_lt {l : List UInt8} {j : Nat} (h : moI l = some j) : j < 12 := by
  unfold moI at h
  have := List.mem_of_find?_eq_some h
  simpa using this
theorem pre_one (L : List UInt8) (k : Nat) (c : UInt8) : Lib.hasPrefix (L.drop k) [c] = true ↔ L[k]? = some c := by
  have e := List.head?_drop (l := L) (i := k)
  rw [← e]
  cases L.drop k with
  | nil => simp [Lib.hasPrefix]
  | cons x t =>
    show ((c == x) && true) = true ↔ some x = some c
    rw [Bool.and_true, beq_iff_eq, Option.some_inj]
    exact eq_comm
theorem aS_nil (L : List UInt8) (k : Nat) (y m d h i s wk : Int) (g : Fd) : allS [] ⟨L.drop k, y, m, d, h, i, s, wk⟩ = some g ↔ (L.length ≤ k ∧ g = ⟨[], y, m, d, h, i, s, wk⟩) := by
  rw [allS]
  show (if L.drop k = [] then some (Fd.mk (L.drop k) y m d h i s wk) else none) = some g ↔ _
  by_cases hk : L.length ≤ k
  · have e : L.drop k = [] := List.drop_eq_nil_of_le hk
    rw [e, if_pos rfl]
    constructor
    · intro h; cases h; exact ⟨hk, rfl⟩
    · rintro ⟨_, rfl⟩; rfl
  · have e : ¬ L.drop k = [] := by rw [List.drop_eq_nil_iff]; exact hk
    rw [if_neg e]
    constructor
    · intro h; cases h
    · rintro ⟨h, _⟩; exact absurd h hk
theorem aS_w (L : List UInt8) (k : Nat) (cs : List UInt8) (y m d h i s wk : Int) (g : Fd) : allS (119 :: cs) ⟨L.drop k, y, m, d, h, i, s, wk⟩ = some g ↔ ∃ j : Nat, wdI 3 (L.drop k) = some j ∧ allS cs ⟨L.drop (k + 3), y, m, d, h, i, s, (j : Int)⟩ = some g := by
  rw [allS_iff]
  have e : oneS (119 : UInt8).toNat ⟨L.drop k, y, m, d, h, i, s, wk⟩ = (wdI 3 (L.drop k)).map fun (j : Nat) => ⟨(L.drop k).drop ((wdS j).data.toList.take 3).length, y, m, d, h, i, s, j⟩ := by
    unfold oneS; rw [if_pos (by decide)]
  rw [e]
  cases hw : wdI 3 (L.drop k) with
  | none => simp
  | some j =>
    have hj : ((wdS j).data.toList.take 3).length = 3 := wd3_len j (wdI_lt hw)
    simp only [Option.map_some, Option.some.injEq, exists_eq_left']
    rw [hj, List.drop_drop]
theorem aS_l (L : List UInt8) (k : Nat) (cs : List UInt8) (y m d h i s wk : Int) (g : Fd) : allS (108 :: cs) ⟨L.drop k, y, m, d, h, i, s, wk⟩ = some g ↔ ∃ j : Nat, wdI 9 (L.drop k) = some j ∧ allS cs ⟨L.drop (k + ((wdS j).data.toList.take 9).length), y, m, d, h, i, s, (j : Int)⟩ = some g := by
  rw [allS_iff]
  have e : oneS (108 : UInt8).toNat ⟨L.drop k, y, m, d, h, i, s, wk⟩ = (wdI 9 (L.drop k)).map fun (j : Nat) => ⟨(L.drop k).drop ((wdS j).data.toList.take 9).length, y, m, d, h, i, s, j⟩ := by
    unfold oneS; rw [if_neg (by decide), if_pos (by decide)]
  rw [e]
  cases hw : wdI 9 (L.drop k) with
  | none => simp
  | some j =>
    simp only [Option.map_some, Option.some.injEq, exists_eq_left']
    rw [List.drop_drop]
theorem aS_b (L : List UInt8) (k : Nat) (cs : List UInt8) (y m d h i s wk : Int) (g : Fd) : allS (98 :: cs) ⟨L.drop k, y, m, d, h, i, s, wk⟩ = some g ↔ ∃ j : Nat, moI (L.drop k) = some j ∧ allS cs ⟨L.drop (k + 3), y, (j : Int) + 1, d, h, i, s, wk⟩ = some g := by
  rw [allS_iff]
  have e : oneS (98 : UInt8).toNat ⟨L.drop k, y, m, d, h, i, s, wk⟩ = (moI (L.drop k)).map fun (j : Nat) => ⟨(L.drop k).drop (moS j).data.toList.length, y, (j : Int) + 1, d, h, i, s, wk⟩ := by
    unfold oneS; rw [if_neg (by decide), if_neg (by decide), if_pos (by decide)]
  rw [e]
  cases hw : moI (L.drop k) with
  | none => simp
  | some j =>
    have hj : (moS j).data.toList.length = 3 := by rw [← ba_size']; exact moS_size j (moI_lt hw)
    simp only [Option.map_some, Option.some.injEq, exists_eq_left']
    rw [hj, List.drop_drop]
theorem aS_t (c : UInt8) (hc : c = 44 ∨ c = 32 ∨ c = 58 ∨ c = 71 ∨ c = 77 ∨ c = 84 ∨ c = 45) (L : List UInt8) (k : Nat) (cs : List UInt8) (y m d h i s wk : Int) (g : Fd) : allS (c :: cs) ⟨L.drop k, y, m, d, h, i, s, wk⟩ = some g ↔ L[k]? = some c ∧ allS cs ⟨L.drop (k + 1), y, m, d, h, i, s, wk⟩ = some g := by
  rw [allS_iff]
  have e : oneS c.toNat ⟨L.drop k, y, m, d, h, i, s, wk⟩ = txL [c] ⟨L.drop k, y, m, d, h, i, s, wk⟩ := by
    rcases hc with rfl | rfl | rfl | rfl | rfl | rfl | rfl
    all_goals rfl
  rw [e, ← pre_one]
  show (∃ f', (if Lib.hasPrefix (L.drop k) [c] = true then some (Fd.mk ((L.drop k).drop 1) y m d h i s wk) else none) = some f' ∧ _) ↔ _
  rw [List.drop_drop]
  cases Lib.hasPrefix (L.drop k) [c]
  · simp
  · simp
theorem aS_t44 (L : List UInt8) (k : Nat) (cs : List UInt8) (y m d h i s wk : Int) (g : Fd) : allS (44 :: cs) ⟨L.drop k, y, m, d, h, i, s, wk⟩ = some g ↔ L[k]? = some 44 ∧ allS cs ⟨L.drop (k + 1), y, m, d, h, i, s, wk⟩ = some g := aS_t 44 (by decide) L k cs y m d h i s wk g
theorem aS_t32 (L : List UInt8) (k : Nat) (cs : List UInt8) (y m d h i s wk : Int) (g : Fd) : allS (32 :: cs) ⟨L.drop k, y, m, d, h, i, s, wk⟩ = some g ↔ L[k]? = some 32 ∧ allS cs ⟨L.drop (k + 1), y, m, d, h, i, s, wk⟩ = some g := aS_t 32 (by decide) L k cs y m d h i s wk g
theorem aS_t58 (L : List UInt8) (k : Nat) (cs : List UInt8) (y m d h i s wk : Int) (g : Fd) : allS (58 :: cs) ⟨L.drop k, y, m, d, h, i, s, wk⟩ = some g ↔ L[k]? = some 58 ∧ allS cs ⟨L.drop (k + 1), y, m, d, h, i, s, wk⟩ = some g := aS_t 58 (by decide) L k cs y m d h i s wk g
theorem aS_t71 (L : List UInt8) (k : Nat) (cs : List UInt8) (y m d h i s wk : Int) (g : Fd) : allS (71 :: cs) ⟨L.drop k, y, m, d, h, i, s, wk⟩ = some g ↔ L[k]? = some 71 ∧ allS cs ⟨L.drop (k + 1), y, m, d, h, i, s, wk⟩ = some g := aS_t 71 (by decide) L k cs y m d h i s wk g
theorem aS_t77 (L : List UInt8) (k : Nat) (cs : List UInt8) (y m d h i s wk : Int) (g : Fd) : allS (77 :: cs) ⟨L.drop k, y, m, d, h, i, s, wk⟩ = some g ↔ L[k]? = some 77 ∧ allS cs ⟨L.drop (k + 1), y, m, d, h, i, s, wk⟩ = some g := aS_t 77 (by decide) L k cs y m d h i s wk g
theorem aS_t84 (L : List UInt8) (k : Nat) (cs : List UInt8) (y m d h i s wk : Int) (g : Fd) : allS (84 :: cs) ⟨L.drop k, y, m, d, h, i, s, wk⟩ = some g ↔ L[k]? = some 84 ∧ allS cs ⟨L.drop (k + 1), y, m, d, h, i, s, wk⟩ = some g := aS_t 84 (by decide) L k cs y m d h i s wk g
theorem aS_t45 (L : List UInt8) (k : Nat) (cs : List UInt8) (y m d h i s wk : Int) (g : Fd) : allS (45 :: cs) ⟨L.drop k, y, m, d, h, i, s, wk⟩ = some g ↔ L[k]? = some 45 ∧ allS cs ⟨L.drop (k + 1), y, m, d, h, i, s, wk⟩ = some g := aS_t 45 (by decide) L k cs y m d h i s wk g
theorem aS_num {o : Option Int} {F : Int → Fd} {f : Fd} {c : UInt8} {cs : List UInt8} {g : Fd} (e : oneS c.toNat f = o.map F) : allS (c :: cs) f = some g ↔ ∃ n, o = some n ∧ allS cs (F n) = some g := by
  rw [allS_iff, e]
  cases o with
  | none => simp
  | some n => simp
theorem aS_d (L : List UInt8) (k : Nat) (cs : List UInt8) (y m d h i s wk : Int) (g : Fd) : allS (100 :: cs) ⟨L.drop k, y, m, d, h, i, s, wk⟩ = some g ↔ ∃ n, numL 2 (L.drop k) = some n ∧ allS cs ⟨L.drop (k + 2), y, m, n, h, i, s, wk⟩ = some g :=
  aS_num (F := fun n => ⟨L.drop (k + 2), y, m, n, h, i, s, wk⟩) (by unfold oneS; rw [← List.drop_drop]; rfl)
theorem aS_y (L : List UInt8) (k : Nat) (cs : List UInt8) (y m d h i s wk : Int) (g : Fd) : allS (121 :: cs) ⟨L.drop k, y, m, d, h, i, s, wk⟩ = some g ↔ ∃ n, numL 4 (L.drop k) = some n ∧ allS cs ⟨L.drop (k + 4), n, m, d, h, i, s, wk⟩ = some g :=
  aS_num (F := fun n => ⟨L.drop (k + 4), n, m, d, h, i, s, wk⟩) (by unfold oneS; rw [← List.drop_drop]; rfl)
theorem aS_e (L : List UInt8) (k : Nat) (cs : List UInt8) (y m d h i s wk : Int) (g : Fd) : allS (101 :: cs) ⟨L.drop k, y, m, d, h, i, s, wk⟩ = some g ↔ ∃ n, numL 2 (L.drop k) = some n ∧ allS cs ⟨L.drop (k + 2), n, m, d, h, i, s, wk⟩ = some g :=
  aS_num (F := fun n => ⟨L.drop (k + 2), n, m, d, h, i, s, wk⟩) (by unfold oneS; rw [← List.drop_drop]; rfl)
theorem aS_h (L : List UInt8) (k : Nat) (cs : List UInt8) (y m d h i s wk : Int) (g : Fd) : allS (104 :: cs) ⟨L.drop k, y, m, d, h, i, s, wk⟩ = some g ↔ ∃ n, numL 2 (L.drop k) = some n ∧ allS cs ⟨L.drop (k + 2), y, m, d, n, i, s, wk⟩ = some g :=
  aS_num (F := fun n => ⟨L.drop (k + 2), y, m, d, n, i, s, wk⟩) (by unfold oneS; rw [← List.drop_drop]; rfl)
theorem aS_i (L : List UInt8) (k : Nat) (cs : List UInt8) (y m d h i s wk : Int) (g : Fd) : allS (105 :: cs) ⟨L.drop k, y, m, d, h, i, s, wk⟩ = some g ↔ ∃ n, numL 2 (L.drop k) = some n ∧ allS cs ⟨L.drop (k + 2), y, m, d, h, n, s, wk⟩ = some g :=
  aS_num (F := fun n => ⟨L.drop (k + 2), y, m, d, h, n, s, wk⟩) (by unfold oneS; rw [← List.drop_drop]; rfl)
theorem aS_s (L : List UInt8) (k : Nat) (cs : List UInt8) (y m d h i s wk : Int) (g : Fd) : allS (115 :: cs) ⟨L.drop k, y, m, d, h, i, s, wk⟩ = some g ↔ ∃ n, numL 2 (L.drop k) = some n ∧ allS cs ⟨L.drop (k + 2), y, m, d, h, i, n, wk⟩ = some g :=
  aS_num (F := fun n => ⟨L.drop (k + 2), y, m, d, h, i, n, wk⟩) (by unfold oneS; rw [← List.drop_drop]; rfl)
def dayP (l : List UInt8) : Option Int := if Lib.hasPrefix l [32] = true then numL 1 (l.drop 1) else numL 2 l
theorem aS_p (L : List UInt8) (k : Nat) (cs : List UInt8) (y m d h i s wk : Int) (g : Fd) : allS (112 :: cs) ⟨L.drop k, y, m, d, h, i, s, wk⟩ = some g ↔ ∃ n, dayP (L.drop k) = some n ∧ allS cs ⟨L.drop (k + 2), y, m, n, h, i, s, wk⟩ = some g :=
  aS_num (F := fun n => ⟨L.drop (k + 2), y, m, n, h, i, s, wk⟩) (by
    unfold oneS dayP
    rw [if_neg (by decide), if_neg (by decide), if_neg (by decide), if_pos (by decide)]
    cases hp : Lib.hasPrefix (L.drop k) [32]
    · rw [← List.drop_drop]; rfl
    · rw [show L.drop (k + 2) = ((L.drop k).drop 1).drop 1 by rw [List.drop_drop, List.drop_drop]]; rfl)
/-- The first pattern. -/
theorem all0_iff (L : List UInt8) (g : Fd) : allS (patS 0).data.toList (fd0 L) = some g ↔ ∃ j : Nat, wdI 3 L = some j ∧ L[3]? = some 44 ∧ L[4]? = some 32 ∧ ∃ d, numL 2 (L.drop 5) = some d ∧ L[7]? = some 32 ∧ ∃ mo : Nat, moI (L.drop 8) = some mo ∧ L[11]? = some 32 ∧ ∃ y, numL 4 (L.drop 12) = some y ∧ L[16]? = some 32 ∧ ∃ h, numL 2 (L.drop 17) = some h ∧ L[19]? = some 58 ∧ ∃ i, numL 2 (L.drop 20) = some i ∧ L[22]? = some 58 ∧ ∃ s, numL 2 (L.drop 23) = some s ∧ L[25]? = some 32 ∧ L[26]? = some 71 ∧ L[27]? = some 77 ∧ L[28]? = some 84 ∧ L.length ≤ 29 ∧ g = ⟨[], y, (mo : Int) + 1, d, h, i, s, (j : Int)⟩ := by
  show allS [119, 44, 32, 100, 32, 98, 32, 121, 32, 104, 58, 105, 58, 115, 32, 71, 77, 84] ⟨L.drop 0, 0, 0, 0, 0, 0, 0, 0⟩ = some g ↔ _
  simp only [aS_nil, aS_w, aS_b, aS_t44, aS_t32, aS_t58, aS_t71, aS_t77, aS_t84, aS_d, aS_y, aS_h, aS_i, aS_s, Nat.reduceAdd, Nat.zero_add]
  exact Iff.rfl
/-- The second pattern. -/
theorem all1_iff (L : List UInt8) (g : Fd) : allS (patS 1).data.toList (fd0 L) = some g ↔ ∃ j : Nat, wdI 9 L = some j ∧ ∃ a : Nat, a = ((wdS j).data.toList.take 9).length ∧ L[a]? = some 44 ∧ L[a + 1]? = some 32 ∧ ∃ d, numL 2 (L.drop (a + 2)) = some d ∧ L[a + 4]? = some 45 ∧ ∃ mo : Nat, moI (L.drop (a + 5)) = some mo ∧ L[a + 8]? = some 45 ∧ ∃ y, numL 2 (L.drop (a + 9)) = some y ∧ L[a + 11]? = some 32 ∧ ∃ h, numL 2 (L.drop (a + 12)) = some h ∧ L[a + 14]? = some 58 ∧ ∃ i, numL 2 (L.drop (a + 15)) = some i ∧ L[a + 17]? = some 58 ∧ ∃ s, numL 2 (L.drop (a + 18)) = some s ∧ L[a + 20]? = some 32 ∧ L[a + 21]? = some 71 ∧ L[a + 22]? = some 77 ∧ L[a + 23]? = some 84 ∧ L.length ≤ a + 24 ∧ g = ⟨[], y, (mo : Int) + 1, d, h, i, s, (j : Int)⟩ := by
  show allS [108, 44, 32, 100, 45, 98, 45, 101, 32, 104, 58, 105, 58, 115, 32, 71, 77, 84] ⟨L.drop 0, 0, 0, 0, 0, 0, 0, 0⟩ = some g ↔ _
  simp only [aS_nil, aS_l, aS_b, aS_t44, aS_t32, aS_t45, aS_t58, aS_t71, aS_t77, aS_t84, aS_d, aS_e, aS_h, aS_i, aS_s, Nat.reduceAdd, Nat.zero_add, Nat.add_assoc, exists_eq_left]
  exact Iff.rfl
/-- The third pattern. -/
theorem all2_iff (L : List UInt8) (g : Fd) : allS (patS 2).data.toList (fd0 L) = some g ↔ ∃ j : Nat, wdI 3 L = some j ∧ L[3]? = some 32 ∧ ∃ mo : Nat, moI (L.drop 4) = some mo ∧ L[7]? = some 32 ∧ ∃ d, dayP (L.drop 8) = some d ∧ L[10]? = some 32 ∧ ∃ h, numL 2 (L.drop 11) = some h ∧ L[13]? = some 58 ∧ ∃ i, numL 2 (L.drop 14) = some i ∧ L[16]? = some 58 ∧ ∃ s, numL 2 (L.drop 17) = some s ∧ L[19]? = some 32 ∧ ∃ y, numL 4 (L.drop 20) = some y ∧ L.length ≤ 24 ∧ g = ⟨[], y, (mo : Int) + 1, d, h, i, s, (j : Int)⟩ := by
  show allS [119, 32, 98, 32, 112, 32, 104, 58, 105, 58, 115, 32, 121] ⟨L.drop 0, 0, 0, 0, 0, 0, 0, 0⟩ = some g ↔ _
  simp only [aS_nil, aS_w, aS_b, aS_t32, aS_t58, aS_p, aS_y, aS_h, aS_i, aS_s, Nat.reduceAdd, Nat.zero_add]
  exact Iff.rfl
end Go.Proofs.Ytgamekfickheaaa
