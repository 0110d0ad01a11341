/- Dates of fields (layer 6), plain: what each of the three patterns takes of a text, said octet by octet. · Dates of fields (layer 6), plain: what the document's three forms say of a text is what the three patterns take. · Dates of fields (layer 6): what the document's Form keeps (bin/mkdtr.py). -/
import Derived.Test.YtgamekfickheaaaGreatDtj
import Derived.Test.YtgamekfickheaaaGreatDtn
import Derived.Test.YtgamekfickheaaaGreatDto
import Derived.BigRegion
namespace Go.Proofs.YtgamekfickheaaaGreat
open Go.RowKit
set_option linter.unusedVariables false
set_option linter.unusedSimpArgs false

theorem allS_iff {c : UInt8} {cs : List UInt8} {f g : Fd} : allS (c :: cs) f = some g ↔ ∃ f', oneS c.toNat f = some f' ∧ allS cs f' = some g := by
  rw [allS]
  cases oneS c.toNat f with
  | none => simp
  | some f' => simp
theorem wdI_lt {n : Nat} {l : List UInt8} {j : Nat} (h : wdI n l = some j) : j < 7 := by
  unfold wdI at h
  have := List.mem_of_find?_eq_some h
  simpa using this
theorem moI_lt {l : List UInt8} {j : Nat} (h : moI l = some j) : j < 12 := by
  unfold moI at h
  have := List.mem_of_find?_eq_some h
  simpa using this
theorem pre_one (L : List UInt8) (k : Nat) (c : UInt8) : Lib.hasPrefix (L.drop k) [c] = true ↔ L[k]? = some c := by
  have e := List.head?_drop (l := L) (i := k)
  rw [← e]
  cases L.drop k with
  | nil => simp [Lib.hasPrefix]
  | cons x t =>
    show ((c == x) && true) = true ↔ some x = some c
    rw [Bool.and_true, beq_iff_eq, Option.some_inj]
    exact eq_comm
theorem aS_nil (L : List UInt8) (k : Nat) (y m d h i s wk : Int) (g : Fd) : allS [] ⟨L.drop k, y, m, d, h, i, s, wk⟩ = some g ↔ (L.length ≤ k ∧ g = ⟨[], y, m, d, h, i, s, wk⟩) := by
  rw [allS]
  show (if L.drop k = [] then some (Fd.mk (L.drop k) y m d h i s wk) else none) = some g ↔ _
  by_cases hk : L.length ≤ k
  · have e : L.drop k = [] := List.drop_eq_nil_of_le hk
    rw [e, if_pos rfl]
    constructor
    · intro h; cases h; exact ⟨hk, rfl⟩
    · rintro ⟨_, rfl⟩; rfl
  · have e : ¬ L.drop k = [] := by rw [List.drop_eq_nil_iff]; exact hk
    rw [if_neg e]
    constructor
    · intro h; cases h
    · rintro ⟨h, _⟩; exact absurd h hk
theorem aS_w (L : List UInt8) (k : Nat) (cs : List UInt8) (y m d h i s wk : Int) (g : Fd) : allS (119 :: cs) ⟨L.drop k, y, m, d, h, i, s, wk⟩ = some g ↔ ∃ j : Nat, wdI 3 (L.drop k) = some j ∧ allS cs ⟨L.drop (k + 3), y, m, d, h, i, s, (j : Int)⟩ = some g := by
  rw [allS_iff]
  have e : oneS (119 : UInt8).toNat ⟨L.drop k, y, m, d, h, i, s, wk⟩ = (wdI 3 (L.drop k)).map fun (j : Nat) => ⟨(L.drop k).drop ((wdS j).data.toList.take 3).length, y, m, d, h, i, s, j⟩ := by
    unfold oneS; rw [if_pos (by decide)]
  rw [e]
  cases hw : wdI 3 (L.drop k) with
  | none => simp
  | some j =>
    have hj : ((wdS j).data.toList.take 3).length = 3 := wd3_len j (wdI_lt hw)
    simp only [Option.map_some, Option.some.injEq, exists_eq_left']
    rw [hj, List.drop_drop]
theorem aS_l (L : List UInt8) (k : Nat) (cs : List UInt8) (y m d h i s wk : Int) (g : Fd) : allS (108 :: cs) ⟨L.drop k, y, m, d, h, i, s, wk⟩ = some g ↔ ∃ j : Nat, wdI 9 (L.drop k) = some j ∧ allS cs ⟨L.drop (k + ((wdS j).data.toList.take 9).length), y, m, d, h, i, s, (j : Int)⟩ = some g := by
  rw [allS_iff]
  have e : oneS (108 : UInt8).toNat ⟨L.drop k, y, m, d, h, i, s, wk⟩ = (wdI 9 (L.drop k)).map fun (j : Nat) => ⟨(L.drop k).drop ((wdS j).data.toList.take 9).length, y, m, d, h, i, s, j⟩ := by
    unfold oneS; rw [if_neg (by decide), if_pos (by decide)]
  rw [e]
  cases hw : wdI 9 (L.drop k) with
  | none => simp
  | some j =>
    simp only [Option.map_some, Option.some.injEq, exists_eq_left']
    rw [List.drop_drop]
theorem aS_b (L : List UInt8) (k : Nat) (cs : List UInt8) (y m d h i s wk : Int) (g : Fd) : allS (98 :: cs) ⟨L.drop k, y, m, d, h, i, s, wk⟩ = some g ↔ ∃ j : Nat, moI (L.drop k) = some j ∧ allS cs ⟨L.drop (k + 3), y, (j : Int) + 1, d, h, i, s, wk⟩ = some g := by
  rw [allS_iff]
  have e : oneS (98 : UInt8).toNat ⟨L.drop k, y, m, d, h, i, s, wk⟩ = (moI (L.drop k)).map fun (j : Nat) => ⟨(L.drop k).drop (moS j).data.toList.length, y, (j : Int) + 1, d, h, i, s, wk⟩ := by
    unfold oneS; rw [if_neg (by decide), if_neg (by decide), if_pos (by decide)]
  rw [e]
  cases hw : moI (L.drop k) with
  | none => simp
  | some j =>
    have hj : (moS j).data.toList.length = 3 := by rw [← ba_size']; exact moS_size j (moI_lt hw)
    simp only [Option.map_some, Option.some.injEq, exists_eq_left']
    rw [hj, List.drop_drop]
theorem aS_t (c : UInt8) (hc : c = 44 ∨ c = 32 ∨ c = 58 ∨ c = 71 ∨ c = 77 ∨ c = 84 ∨ c = 45) (L : List UInt8) (k : Nat) (cs : List UInt8) (y m d h i s wk : Int) (g : Fd) : allS (c :: cs) ⟨L.drop k, y, m, d, h, i, s, wk⟩ = some g ↔ L[k]? = some c ∧ allS cs ⟨L.drop (k + 1), y, m, d, h, i, s, wk⟩ = some g := by
  rw [allS_iff]
  have e : oneS c.toNat ⟨L.drop k, y, m, d, h, i, s, wk⟩ = txL [c] ⟨L.drop k, y, m, d, h, i, s, wk⟩ := by
    rcases hc with rfl | rfl | rfl | rfl | rfl | rfl | rfl
    all_goals rfl
  rw [e, ← pre_one]
  show (∃ f', (if Lib.hasPrefix (L.drop k) [c] = true then some (Fd.mk ((L.drop k).drop 1) y m d h i s wk) else none) = some f' ∧ _) ↔ _
  rw [List.drop_drop]
  cases Lib.hasPrefix (L.drop k) [c]
  · simp
  · simp
theorem aS_t44 (L : List UInt8) (k : Nat) (cs : List UInt8) (y m d h i s wk : Int) (g : Fd) : allS (44 :: cs) ⟨L.drop k, y, m, d, h, i, s, wk⟩ = some g ↔ L[k]? = some 44 ∧ allS cs ⟨L.drop (k + 1), y, m, d, h, i, s, wk⟩ = some g := aS_t 44 (by decide) L k cs y m d h i s wk g
theorem aS_t32 (L : List UInt8) (k : Nat) (cs : List UInt8) (y m d h i s wk : Int) (g : Fd) : allS (32 :: cs) ⟨L.drop k, y, m, d, h, i, s, wk⟩ = some g ↔ L[k]? = some 32 ∧ allS cs ⟨L.drop (k + 1), y, m, d, h, i, s, wk⟩ = some g := aS_t 32 (by decide) L k cs y m d h i s wk g
theorem aS_t58 (L : List UInt8) (k : Nat) (cs : List UInt8) (y m d h i s wk : Int) (g : Fd) : allS (58 :: cs) ⟨L.drop k, y, m, d, h, i, s, wk⟩ = some g ↔ L[k]? = some 58 ∧ allS cs ⟨L.drop (k + 1), y, m, d, h, i, s, wk⟩ = some g := aS_t 58 (by decide) L k cs y m d h i s wk g
theorem aS_t71 (L : List UInt8) (k : Nat) (cs : List UInt8) (y m d h i s wk : Int) (g : Fd) : allS (71 :: cs) ⟨L.drop k, y, m, d, h, i, s, wk⟩ = some g ↔ L[k]? = some 71 ∧ allS cs ⟨L.drop (k + 1), y, m, d, h, i, s, wk⟩ = some g := aS_t 71 (by decide) L k cs y m d h i s wk g
theorem aS_t77 (L : List UInt8) (k : Nat) (cs : List UInt8) (y m d h i s wk : Int) (g : Fd) : allS (77 :: cs) ⟨L.drop k, y, m, d, h, i, s, wk⟩ = some g ↔ L[k]? = some 77 ∧ allS cs ⟨L.drop (k + 1), y, m, d, h, i, s, wk⟩ = some g := aS_t 77 (by decide) L k cs y m d h i s wk g
theorem aS_t84 (L : List UInt8) (k : Nat) (cs : List UInt8) (y m d h i s wk : Int) (g : Fd) : allS (84 :: cs) ⟨L.drop k, y, m, d, h, i, s, wk⟩ = some g ↔ L[k]? = some 84 ∧ allS cs ⟨L.drop (k + 1), y, m, d, h, i, s, wk⟩ = some g := aS_t 84 (by decide) L k cs y m d h i s wk g
theorem aS_t45 (L : List UInt8) (k : Nat) (cs : List UInt8) (y m d h i s wk : Int) (g : Fd) : allS (45 :: cs) ⟨L.drop k, y, m, d, h, i, s, wk⟩ = some g ↔ L[k]? = some 45 ∧ allS cs ⟨L.drop (k + 1), y, m, d, h, i, s, wk⟩ = some g := aS_t 45 (by decide) L k cs y m d h i s wk g
theorem aS_num {o : Option Int} {F : Int → Fd} {f : Fd} {c : UInt8} {cs : List UInt8} {g : Fd} (e : oneS c.toNat f = o.map F) : allS (c :: cs) f = some g ↔ ∃ n, o = some n ∧ allS cs (F n) = some g := by
  rw [allS_iff, e]
  cases o with
  | none => simp
  | some n => simp
theorem aS_d (L : List UInt8) (k : Nat) (cs : List UInt8) (y m d h i s wk : Int) (g : Fd) : allS (100 :: cs) ⟨L.drop k, y, m, d, h, i, s, wk⟩ = some g ↔ ∃ n, numL 2 (L.drop k) = some n ∧ allS cs ⟨L.drop (k + 2), y, m, n, h, i, s, wk⟩ = some g :=
  aS_num (F := fun n => ⟨L.drop (k + 2), y, m, n, h, i, s, wk⟩) (by unfold oneS; rw [← List.drop_drop]; rfl)
theorem aS_y (L : List UInt8) (k : Nat) (cs : List UInt8) (y m d h i s wk : Int) (g : Fd) : allS (121 :: cs) ⟨L.drop k, y, m, d, h, i, s, wk⟩ = some g ↔ ∃ n, numL 4 (L.drop k) = some n ∧ allS cs ⟨L.drop (k + 4), n, m, d, h, i, s, wk⟩ = some g :=
  aS_num (F := fun n => ⟨L.drop (k + 4), n, m, d, h, i, s, wk⟩) (by unfold oneS; rw [← List.drop_drop]; rfl)
theorem aS_e (L : List UInt8) (k : Nat) (cs : List UInt8) (y m d h i s wk : Int) (g : Fd) : allS (101 :: cs) ⟨L.drop k, y, m, d, h, i, s, wk⟩ = some g ↔ ∃ n, numL 2 (L.drop k) = some n ∧ allS cs ⟨L.drop (k + 2), n, m, d, h, i, s, wk⟩ = some g :=
  aS_num (F := fun n => ⟨L.drop (k + 2), n, m, d, h, i, s, wk⟩) (by unfold oneS; rw [← List.drop_drop]; rfl)
theorem aS_h (L : List UInt8) (k : Nat) (cs : List UInt8) (y m d h i s wk : Int) (g : Fd) : allS (104 :: cs) ⟨L.drop k, y, m, d, h, i, s, wk⟩ = some g ↔ ∃ n, numL 2 (L.drop k) = some n ∧ allS cs ⟨L.drop (k + 2), y, m, d, n, i, s, wk⟩ = some g :=
  aS_num (F := fun n => ⟨L.drop (k + 2), y, m, d, n, i, s, wk⟩) (by unfold oneS; rw [← List.drop_drop]; rfl)
theorem aS_i (L : List UInt8) (k : Nat) (cs : List UInt8) (y m d h i s wk : Int) (g : Fd) : allS (105 :: cs) ⟨L.drop k, y, m, d, h, i, s, wk⟩ = some g ↔ ∃ n, numL 2 (L.drop k) = some n ∧ allS cs ⟨L.drop (k + 2), y, m, d, h, n, s, wk⟩ = some g :=
  aS_num (F := fun n => ⟨L.drop (k + 2), y, m, d, h, n, s, wk⟩) (by unfold oneS; rw [← List.drop_drop]; rfl)
theorem aS_s (L : List UInt8) (k : Nat) (cs : List UInt8) (y m d h i s wk : Int) (g : Fd) : allS (115 :: cs) ⟨L.drop k, y, m, d, h, i, s, wk⟩ = some g ↔ ∃ n, numL 2 (L.drop k) = some n ∧ allS cs ⟨L.drop (k + 2), y, m, d, h, i, n, wk⟩ = some g :=
  aS_num (F := fun n => ⟨L.drop (k + 2), y, m, d, h, i, n, wk⟩) (by unfold oneS; rw [← List.drop_drop]; rfl)
def dayP (l : List UInt8) : Option Int := if Lib.hasPrefix l [32] = true then numL 1 (l.drop 1) else numL 2 l
theorem aS_p (L : List UInt8) (k : Nat) (cs : List UInt8) (y m d h i s wk : Int) (g : Fd) : allS (112 :: cs) ⟨L.drop k, y, m, d, h, i, s, wk⟩ = some g ↔ ∃ n, dayP (L.drop k) = some n ∧ allS cs ⟨L.drop (k + 2), y, m, n, h, i, s, wk⟩ = some g :=
  aS_num (F := fun n => ⟨L.drop (k + 2), y, m, n, h, i, s, wk⟩) (by
    unfold oneS dayP
    rw [if_neg (by decide), if_neg (by decide), if_neg (by decide), if_pos (by decide)]
    cases hp : Lib.hasPrefix (L.drop k) [32]
    · rw [← List.drop_drop]; rfl
    · rw [show L.drop (k + 2) = ((L.drop k).drop 1).drop 1 by rw [List.drop_drop, List.drop_drop]]; rfl)
/-- The first pattern. -/
theorem all0_iff (L : List UInt8) (g : Fd) : allS (patS 0).data.toList (fd0 L) = some g ↔ ∃ j : Nat, wdI 3 L = some j ∧ L[3]? = some 44 ∧ L[4]? = some 32 ∧ ∃ d, numL 2 (L.drop 5) = some d ∧ L[7]? = some 32 ∧ ∃ mo : Nat, moI (L.drop 8) = some mo ∧ L[11]? = some 32 ∧ ∃ y, numL 4 (L.drop 12) = some y ∧ L[16]? = some 32 ∧ ∃ h, numL 2 (L.drop 17) = some h ∧ L[19]? = some 58 ∧ ∃ i, numL 2 (L.drop 20) = some i ∧ L[22]? = some 58 ∧ ∃ s, numL 2 (L.drop 23) = some s ∧ L[25]? = some 32 ∧ L[26]? = some 71 ∧ L[27]? = some 77 ∧ L[28]? = some 84 ∧ L.length ≤ 29 ∧ g = ⟨[], y, (mo : Int) + 1, d, h, i, s, (j : Int)⟩ := by
  show allS [119, 44, 32, 100, 32, 98, 32, 121, 32, 104, 58, 105, 58, 115, 32, 71, 77, 84] ⟨L.drop 0, 0, 0, 0, 0, 0, 0, 0⟩ = some g ↔ _
  simp only [aS_nil, aS_w, aS_b, aS_t44, aS_t32, aS_t58, aS_t71, aS_t77, aS_t84, aS_d, aS_y, aS_h, aS_i, aS_s, Nat.reduceAdd, Nat.zero_add]
  exact Iff.rfl
/-- The second pattern. -/
theorem all1_iff (L : List UInt8) (g : Fd) : allS (patS 1).data.toList (fd0 L) = some g ↔ ∃ j : Nat, wdI 9 L = some j ∧ ∃ a : Nat, a = ((wdS j).data.toList.take 9).length ∧ L[a]? = some 44 ∧ L[a + 1]? = some 32 ∧ ∃ d, numL 2 (L.drop (a + 2)) = some d ∧ L[a + 4]? = some 45 ∧ ∃ mo : Nat, moI (L.drop (a + 5)) = some mo ∧ L[a + 8]? = some 45 ∧ ∃ y, numL 2 (L.drop (a + 9)) = some y ∧ L[a + 11]? = some 32 ∧ ∃ h, numL 2 (L.drop (a + 12)) = some h ∧ L[a + 14]? = some 58 ∧ ∃ i, numL 2 (L.drop (a + 15)) = some i ∧ L[a + 17]? = some 58 ∧ ∃ s, numL 2 (L.drop (a + 18)) = some s ∧ L[a + 20]? = some 32 ∧ L[a + 21]? = some 71 ∧ L[a + 22]? = some 77 ∧ L[a + 23]? = some 84 ∧ L.length ≤ a + 24 ∧ g = ⟨[], y, (mo : Int) + 1, d, h, i, s, (j : Int)⟩ := by
  show allS [108, 44, 32, 100, 45, 98, 45, 101, 32, 104, 58, 105, 58, 115, 32, 71, 77, 84] ⟨L.drop 0, 0, 0, 0, 0, 0, 0, 0⟩ = some g ↔ _
  simp only [aS_nil, aS_l, aS_b, aS_t44, aS_t32, aS_t45, aS_t58, aS_t71, aS_t77, aS_t84, aS_d, aS_e, aS_h, aS_i, aS_s, Nat.reduceAdd, Nat.zero_add, Nat.add_assoc, exists_eq_left]
  exact Iff.rfl
/-- The third pattern. -/
theorem all2_iff (L : List UInt8) (g : Fd) : allS (patS 2).data.toList (fd0 L) = some g ↔ ∃ j : Nat, wdI 3 L = some j ∧ L[3]? = some 32 ∧ ∃ mo : Nat, moI (L.drop 4) = some mo ∧ L[7]? = some 32 ∧ ∃ d, dayP (L.drop 8) = some d ∧ L[10]? = some 32 ∧ ∃ h, numL 2 (L.drop 11) = some h ∧ L[13]? = some 58 ∧ ∃ i, numL 2 (L.drop 14) = some i ∧ L[16]? = some 58 ∧ ∃ s, numL 2 (L.drop 17) = some s ∧ L[19]? = some 32 ∧ ∃ y, numL 4 (L.drop 20) = some y ∧ L.length ≤ 24 ∧ g = ⟨[], y, (mo : Int) + 1, d, h, i, s, (j : Int)⟩ := by
  show allS [119, 32, 98, 32, 112, 32, 104, 58, 105, 58, 115, 32, 121] ⟨L.drop 0, 0, 0, 0, 0, 0, 0, 0⟩ = some g ↔ _
  simp only [aS_nil, aS_w, aS_b, aS_t32, aS_t58, aS_p, aS_y, aS_h, aS_i, aS_s, Nat.reduceAdd, Nat.zero_add]
  exact Iff.rfl
end Go.Proofs.YtgamekfickheaaaGreat
namespace Go.Proofs.YtgamekfickheaaaGreat
open Go.RowKit
set_option linter.unusedVariables false
set_option linter.unusedSimpArgs false

theorem find_congr {P Q : Nat → Bool} : ∀ l : List Nat, (∀ x ∈ l, P x = Q x) → l.find? P = l.find? Q
  | [], _ => rfl
  | a :: l, h => by
    rw [List.find?_cons, List.find?_cons, h a (by simp), find_congr l (fun x hx => h x (by simp [hx]))]
theorem dt_cons (L : List UInt8) (k n : Nat) (c : UInt8) (cs : List UInt8) : (L.drop k).take (n + 1) = c :: cs ↔ L[k]? = some c ∧ (L.drop (k + 1)).take n = cs := by
  rw [← List.head?_drop, show L.drop (k + 1) = (L.drop k).drop 1 by rw [List.drop_drop]]
  cases L.drop k with
  | nil => simp
  | cons x t => simp
theorem ext_list (tx : ByteArray) (k w : Nat) : (tx.extract k (k + w)).data.toList = (tx.data.toList.drop k).take w := by
  rw [Lib.extract_data, Nat.add_sub_cancel_left]
theorem ext_ofL (tx : ByteArray) (k w : Nat) : tx.extract k (k + w) = ofL ((tx.data.toList.drop k).take w) := ba_ext (by rw [ext_list]; simp [ofL])
theorem ext_two (tx : ByteArray) (k : Nat) (a b : UInt8) : tx.extract k (k + 2) = ⟨#[a, b]⟩ ↔ tx.data.toList[k]? = some a ∧ tx.data.toList[k + 1]? = some b := by
  have e : (tx.data.toList.drop k).take 2 = [a, b] ↔ tx.data.toList[k]? = some a ∧ tx.data.toList[k + 1]? = some b := by
    rw [dt_cons, dt_cons]; simp
  rw [← e, ← ext_list]
  exact ⟨fun h => by rw [h], fun h => ba_ext h⟩
theorem ext_four (tx : ByteArray) (k : Nat) (a b c d : UInt8) : tx.extract k (k + 4) = ⟨#[a, b, c, d]⟩ ↔ tx.data.toList[k]? = some a ∧ tx.data.toList[k + 1]? = some b ∧ tx.data.toList[k + 2]? = some c ∧ tx.data.toList[k + 3]? = some d := by
  have e : (tx.data.toList.drop k).take 4 = [a, b, c, d] ↔ tx.data.toList[k]? = some a ∧ tx.data.toList[k + 1]? = some b ∧ tx.data.toList[k + 2]? = some c ∧ tx.data.toList[k + 3]? = some d := by
    rw [dt_cons, dt_cons, dt_cons, dt_cons]; simp
  rw [← e, ← ext_list]
  exact ⟨fun h => by rw [h], fun h => ba_ext h⟩
theorem bt_get (tx : ByteArray) (k : Nat) (c : UInt8) (h : k < tx.size) : bt tx k = c.toNat ↔ tx.data.toList[k]? = some c := by
  have hk : k < tx.data.toList.length := by rw [← ba_size']; exact h
  rw [List.getElem?_eq_getElem hk, ← bt_list tx k h, UInt8.toNat_inj]
  simp
theorem get_lt {tx : ByteArray} {k : Nat} {c : UInt8} (h : tx.data.toList[k]? = some c) : k < tx.size := by
  rw [ba_size']
  exact (List.getElem?_eq_some_iff.1 h).1
theorem nm_of {tx : ByteArray} {k w : Nat} (hl : k + w ≤ tx.size) (h0 : 0 ≤ nmQ (tx.extract k (k + w))) : numL w (tx.data.toList.drop k) = some (nmQ (tx.extract k (k + w))) := by
  unfold numL
  rw [if_neg (by rw [List.length_drop, ← ba_size']; omega)]
  rw [ext_ofL] at h0 ⊢
  unfold nmQ at h0 ⊢
  by_cases h : numE 10 (ofL ((tx.data.toList.drop k).take w)) 9999 = 0
  · rw [if_pos h, if_pos h]
  · rw [if_neg h] at h0; omega
theorem nm_to {tx : ByteArray} {k w : Nat} {n : Int} (h : numL w (tx.data.toList.drop k) = some n) : nmQ (tx.extract k (k + w)) = n ∧ 0 ≤ n := by
  refine ⟨?_, (numL_range h).1⟩
  unfold numL at h
  split at h
  · cases h
  · split at h
    · rename_i h1
      cases h
      rw [ext_ofL]
      unfold nmQ
      rw [if_pos h1]
    · cases h
theorem ext_ext (tx : ByteArray) (a b i w : Nat) (h : a + i + w ≤ b) : (tx.extract a b).extract i (i + w) = tx.extract (a + i) (a + i + w) := by
  refine ba_ext ?_
  rw [ext_list, ext_list, Lib.extract_data, List.drop_take, List.drop_drop, List.take_take, Nat.min_eq_left (by omega)]
theorem pre_ext (tx : ByteArray) (k : Nat) (p : List UInt8) : Lib.hasPrefix (tx.data.toList.drop k) p = true ↔ tx.extract k (k + p.length) = ofL p := by
  unfold Lib.hasPrefix
  rw [List.isPrefixOf_iff_prefix, List.prefix_iff_eq_take, ← ext_list]
  constructor
  · intro h
    exact ba_ext (by rw [← h]; simp [ofL])
  · intro h
    rw [h]; simp [ofL]
theorem ofL_self (s : ByteArray) : ofL s.data.toList = s := ba_ext (by simp [ofL])
theorem mo_ix (tx : ByteArray) (k : Nat) : ixN 12 moS (tx.extract k (k + 3)) = moI (tx.data.toList.drop k) := by
  unfold ixN moI
  refine find_congr _ fun j hj => ?_
  have hj : j < 12 := by simpa using hj
  have hl : (moS j).data.toList.length = 3 := by rw [← ba_size']; exact moS_size j hj
  have := pre_ext tx k (moS j).data.toList
  rw [hl, ofL_self] at this
  rw [Bool.eq_iff_iff, this, decide_eq_true_eq]
  exact eq_comm
theorem ixD_some {n : Nat} {S : Nat → ByteArray} {s : ByteArray} {j : Nat} (h : ixN n S s = some j) : ixD n S s = (j : Int) := by unfold ixD; rw [h]
theorem ixD_of {n : Nat} {S : Nat → ByteArray} {s : ByteArray} (h : 0 ≤ ixD n S s) : ∃ j : Nat, ixN n S s = some j ∧ ixD n S s = (j : Int) := by
  unfold ixD at h ⊢
  cases hx : ixN n S s with
  | none => rw [hx] at h; exact absurd h (by decide)
  | some j => exact ⟨j, rfl, rfl⟩
/-- The weekday of which three letters stand first. -/
def wkF (tx : ByteArray) : Option Nat := (List.range 7).find? fun i => decide (tx.extract 0 3 = ofL (wd3 i))
def wkD (tx : ByteArray) : Int := match wkF tx with | some k => (k : Int) | none => -1
theorem wk_ix (tx : ByteArray) : wkF tx = wdI 3 tx.data.toList := by
  unfold wkF wdI
  refine find_congr _ fun j hj => ?_
  have hj : j < 7 := by simpa using hj
  have := pre_ext tx 0 (wd3 j)
  rw [wd3_len j hj, List.drop_zero] at this
  rw [Bool.eq_iff_iff, decide_eq_true_eq]
  exact this.symm
theorem wkD_some {tx : ByteArray} {j : Nat} (h : wkF tx = some j) : wkD tx = (j : Int) := by unfold wkD; rw [h]
theorem wkD_of {tx : ByteArray} (h : 0 ≤ wkD tx) : ∃ j : Nat, wkF tx = some j ∧ wkD tx = (j : Int) := by
  unfold wkD at h ⊢
  cases hx : wkF tx with
  | none => rw [hx] at h; exact absurd h (by decide)
  | some j => exact ⟨j, rfl, rfl⟩
/-- A time, as it is looked at. -/
def tmC (T : ByteArray) : Prop := T.size = 8 ∧ bt T 2 = 58 ∧ bt T 5 = 58
/-- A time at a place of a text. -/
theorem time_iff (tx : ByteArray) (a : Nat) (hl : a + 8 ≤ tx.size) (h i s : Int) :
    (tmC (tx.extract a (a + 8)) ∧ hmsB (tx.extract a (a + 8)) = true ∧ nmQ ((tx.extract a (a + 8)).extract 0 2) = h ∧ nmQ ((tx.extract a (a + 8)).extract 3 5) = i ∧ nmQ ((tx.extract a (a + 8)).extract 6 (tx.extract a (a + 8)).size) = s) ↔
    (numL 2 (tx.data.toList.drop a) = some h ∧ tx.data.toList[a + 2]? = some 58 ∧ numL 2 (tx.data.toList.drop (a + 3)) = some i ∧ tx.data.toList[a + 5]? = some 58 ∧ numL 2 (tx.data.toList.drop (a + 6)) = some s) := by
  have hz : (tx.extract a (a + 8)).size = 8 := by rw [ByteArray.size_extract]; omega
  have e1 : (tx.extract a (a + 8)).extract 0 2 = tx.extract a (a + 2) := ext_ext tx a (a + 8) 0 2 (by omega)
  have e2 : (tx.extract a (a + 8)).extract 3 5 = tx.extract (a + 3) (a + 3 + 2) := ext_ext tx a (a + 8) 3 2 (by omega)
  have e3 : (tx.extract a (a + 8)).extract 6 8 = tx.extract (a + 6) (a + 6 + 2) := ext_ext tx a (a + 8) 6 2 (by omega)
  have hT := ext_list tx a 8
  have g2 : bt (tx.extract a (a + 8)) 2 = 58 ↔ tx.data.toList[a + 2]? = some 58 := by
    have := bt_get (tx.extract a (a + 8)) 2 58 (by omega)
    rw [hT, List.getElem?_take_of_lt (by omega), List.getElem?_drop] at this
    exact this
  have g5 : bt (tx.extract a (a + 8)) 5 = 58 ↔ tx.data.toList[a + 5]? = some 58 := by
    have := bt_get (tx.extract a (a + 8)) 5 58 (by omega)
    rw [hT, List.getElem?_take_of_lt (by omega), List.getElem?_drop] at this
    exact this
  unfold tmC hmsB
  rw [hz, e1, e2, e3, g2, g5]
  simp only [Bool.and_eq_true, decide_eq_true_eq]
  constructor
  · rintro ⟨⟨_, h2, h5⟩, ⟨⟨p1, p2⟩, p3⟩, rfl, rfl, rfl⟩
    exact ⟨nm_of (by omega) p1, h2, nm_of (by omega) p2, h5, nm_of (by omega) p3⟩
  · rintro ⟨n1, h2, n2, h5, n3⟩
    obtain ⟨a1, b1⟩ := nm_to n1
    obtain ⟨a2, b2⟩ := nm_to n2
    obtain ⟨a3, b3⟩ := nm_to n3
    exact ⟨⟨trivial, h2, h5⟩, ⟨⟨by rw [a1]; exact b1, by rw [a2]; exact b2⟩, by rw [a3]; exact b3⟩, a1, a2, a3⟩
/-- The document's first form. -/
def f1C (tx : ByteArray) : Prop := tx.size = 29 ∧ tx.extract 3 5 = ⟨#[44, 32]⟩ ∧ bt tx 7 = 32 ∧ bt tx 11 = 32 ∧ bt tx 16 = 32 ∧ tx.extract 25 29 = ⟨#[32, 71, 77, 84]⟩
def tmX (T : ByteArray) (y mo d wk : Int) : Fd := ⟨[], y, mo, d, nmQ (T.extract 0 2), nmQ (T.extract 3 5), nmQ (T.extract 6 T.size), wk⟩
def f1P (tx : ByteArray) : Prop := 0 ≤ wkD tx ∧ f1C tx ∧ tmC (tx.extract 17 25) ∧ hmsB (tx.extract 17 25) = true ∧ 0 ≤ nmQ (tx.extract 5 7) ∧ 1 ≤ ixD 12 moS (tx.extract 8 11) + 1 ∧ 0 ≤ nmQ (tx.extract 12 16)
open Classical in
noncomputable def fo1 (tx : ByteArray) : Option Fd := if f1P tx then some (tmX (tx.extract 17 25) (nmQ (tx.extract 12 16)) (ixD 12 moS (tx.extract 8 11) + 1) (nmQ (tx.extract 5 7)) (wkD tx)) else none
theorem fo1_pos {tx : ByteArray} (h : f1P tx) : fo1 tx = some (tmX (tx.extract 17 25) (nmQ (tx.extract 12 16)) (ixD 12 moS (tx.extract 8 11) + 1) (nmQ (tx.extract 5 7)) (wkD tx)) := if_pos h
theorem fo1_neg {tx : ByteArray} (h : ¬ f1P tx) : fo1 tx = none := if_neg h
theorem fo1_eq (tx : ByteArray) : fo1 tx = allS (patS 0).data.toList (fd0 tx.data.toList) := by
  refine Option.ext fun g => ?_
  show fo1 tx = some g ↔ allS (patS 0).data.toList (fd0 tx.data.toList) = some g
  rw [all0_iff]
  constructor
  · intro hg
    by_cases hP : f1P tx
    · rw [fo1_pos hP] at hg
      cases hg
      obtain ⟨hw, ⟨hz, h3, h7, h11, h16, h25⟩, hT, hH, hd, hm, hy⟩ := hP
      obtain ⟨j, hj, hj2⟩ := wkD_of hw
      obtain ⟨mo, hmo, hmo2⟩ := ixD_of (show 0 ≤ ixD 12 moS (tx.extract 8 11) by omega)
      rw [mo_ix tx 8] at hmo
      rw [wk_ix] at hj
      obtain ⟨c3, c4⟩ := (ext_two tx 3 44 32).1 h3
      obtain ⟨c25, c26, c27, c28⟩ := (ext_four tx 25 32 71 77 84).1 h25
      obtain ⟨t1, t2, t3, t4, t5⟩ := (time_iff tx 17 (by omega) _ _ _).1 ⟨hT, hH, rfl, rfl, rfl⟩
      refine ⟨j, hj, c3, c4, _, nm_of (k := 5) (w := 2) (by omega) hd, (bt_get tx 7 32 (by omega)).1 h7, mo, hmo, (bt_get tx 11 32 (by omega)).1 h11, _, nm_of (k := 12) (w := 4) (by omega) hy, (bt_get tx 16 32 (by omega)).1 h16, _, t1, t2, _, t3, t4, _, t5, c25, c26, c27, c28, by rw [← ba_size']; omega, ?_⟩
      unfold tmX
      rw [hj2, hmo2]
    · rw [fo1_neg hP] at hg; cases hg
  · rintro ⟨j, hj, c3, c4, d, hd, c7, mo, hmo, c11, y, hy, c16, h, t1, t2, i, t3, t4, s, t5, c25, c26, c27, c28, hle, rfl⟩
    have hz : tx.size = 29 := by have := get_lt c28; rw [← ba_size'] at hle; omega
    obtain ⟨hT, hH, r1, r2, r3⟩ := (time_iff tx 17 (by omega) h i s).2 ⟨t1, t2, t3, t4, t5⟩
    obtain ⟨d1, d2⟩ := nm_to hd
    obtain ⟨y1, y2⟩ := nm_to hy
    rw [← mo_ix tx 8] at hmo
    rw [← wk_ix] at hj
    have m1 := ixD_some hmo
    have w1 := wkD_some hj
    have d1 : nmQ (tx.extract 5 7) = d := d1
    have y1 : nmQ (tx.extract 12 16) = y := y1
    have m1 : ixD 12 moS (tx.extract 8 11) = (mo : Int) := m1
    have hT : tmC (tx.extract 17 25) := hT
    have hH : hmsB (tx.extract 17 25) = true := hH
    rw [fo1_pos ⟨by omega, ⟨hz, (ext_two tx 3 44 32).2 ⟨c3, c4⟩, (bt_get tx 7 32 (by omega)).2 c7, (bt_get tx 11 32 (by omega)).2 c11, (bt_get tx 16 32 (by omega)).2 c16, (ext_four tx 25 32 71 77 84).2 ⟨c25, c26, c27, c28⟩⟩, hT, hH, by omega, by omega, by omega⟩, d1, y1, m1, w1]
    unfold tmX
    rw [show nmQ ((tx.extract 17 25).extract 0 2) = h from r1, show nmQ ((tx.extract 17 25).extract 3 5) = i from r2, show nmQ ((tx.extract 17 25).extract 6 (tx.extract 17 25).size) = s from r3]
/-- The document's third form. -/
def f3C (tx : ByteArray) : Prop := tx.size = 24 ∧ bt tx 3 = 32 ∧ bt tx 7 = 32 ∧ bt tx 10 = 32 ∧ bt tx 19 = 32
def dayD (tx : ByteArray) : Int := if bt tx 8 = 32 then nmQ (tx.extract 9 10) else nmQ (tx.extract 8 10)
def f3P (tx : ByteArray) : Prop := 0 ≤ wkD tx ∧ f3C tx ∧ tmC (tx.extract 11 19) ∧ hmsB (tx.extract 11 19) = true ∧ 0 ≤ dayD tx ∧ 1 ≤ ixD 12 moS (tx.extract 4 7) + 1 ∧ 0 ≤ nmQ (tx.extract 20 24)
open Classical in
noncomputable def fo3 (tx : ByteArray) : Option Fd := if f3P tx then some (tmX (tx.extract 11 19) (nmQ (tx.extract 20 24)) (ixD 12 moS (tx.extract 4 7) + 1) (dayD tx) (wkD tx)) else none
theorem fo3_pos {tx : ByteArray} (h : f3P tx) : fo3 tx = some (tmX (tx.extract 11 19) (nmQ (tx.extract 20 24)) (ixD 12 moS (tx.extract 4 7) + 1) (dayD tx) (wkD tx)) := if_pos h
theorem fo3_neg {tx : ByteArray} (h : ¬ f3P tx) : fo3 tx = none := if_neg h
theorem day_iff (tx : ByteArray) (hz : tx.size = 24) (d : Int) : (dayD tx = d ∧ 0 ≤ d) ↔ dayP (tx.data.toList.drop 8) = some d := by
  have g8 := (bt_get tx 8 32 (by omega)).trans (pre_one tx.data.toList 8 32).symm
  have g8 : bt tx 8 = 32 ↔ Lib.hasPrefix (tx.data.toList.drop 8) [32] = true := g8
  unfold dayD dayP
  by_cases h : bt tx 8 = 32
  · rw [if_pos h, if_pos (g8.1 h), List.drop_drop]
    constructor
    · rintro ⟨rfl, h0⟩; exact nm_of (tx := tx) (k := 9) (w := 1) (by omega) h0
    · intro h; exact nm_to (tx := tx) (k := 9) (w := 1) h
  · rw [if_neg h, if_neg (fun h2 => h (g8.2 h2))]
    constructor
    · rintro ⟨rfl, h0⟩; exact nm_of (tx := tx) (k := 8) (w := 2) (by omega) h0
    · intro h; exact nm_to (tx := tx) (k := 8) (w := 2) h
theorem fo3_eq (tx : ByteArray) : fo3 tx = allS (patS 2).data.toList (fd0 tx.data.toList) := by
  refine Option.ext fun g => ?_
  show fo3 tx = some g ↔ allS (patS 2).data.toList (fd0 tx.data.toList) = some g
  rw [all2_iff]
  constructor
  · intro hg
    by_cases hP : f3P tx
    · rw [fo3_pos hP] at hg
      cases hg
      obtain ⟨hw, ⟨hz, h3, h7, h10, h19⟩, hT, hH, hd, hm, hy⟩ := hP
      obtain ⟨j, hj, hj2⟩ := wkD_of hw
      obtain ⟨mo, hmo, hmo2⟩ := ixD_of (show 0 ≤ ixD 12 moS (tx.extract 4 7) by omega)
      rw [mo_ix tx 4] at hmo
      rw [wk_ix] at hj
      obtain ⟨t1, t2, t3, t4, t5⟩ := (time_iff tx 11 (by omega) _ _ _).1 ⟨hT, hH, rfl, rfl, rfl⟩
      refine ⟨j, hj, (bt_get tx 3 32 (by omega)).1 h3, mo, hmo, (bt_get tx 7 32 (by omega)).1 h7, _, (day_iff tx hz _).1 ⟨rfl, hd⟩, (bt_get tx 10 32 (by omega)).1 h10, _, t1, t2, _, t3, t4, _, t5, (bt_get tx 19 32 (by omega)).1 h19, _, nm_of (k := 20) (w := 4) (by omega) hy, by rw [← ba_size']; omega, ?_⟩
      unfold tmX
      rw [hj2, hmo2]
    · rw [fo3_neg hP] at hg; cases hg
  · rintro ⟨j, hj, c3, mo, hmo, c7, d, hd, c10, h, t1, t2, i, t3, t4, s, t5, c19, y, hy, hle, rfl⟩
    have hz : tx.size = 24 := by
      have h20 : ¬ (tx.data.toList.drop 20).length < 4 := fun hlt => by
        unfold numL at hy; rw [if_pos hlt] at hy; cases hy
      rw [List.length_drop] at h20
      rw [ba_size']; omega
    obtain ⟨hT, hH, r1, r2, r3⟩ := (time_iff tx 11 (by omega) h i s).2 ⟨t1, t2, t3, t4, t5⟩
    obtain ⟨d1, d2⟩ := (day_iff tx hz d).2 hd
    obtain ⟨y1, y2⟩ := nm_to hy
    rw [← mo_ix tx 4] at hmo
    rw [← wk_ix] at hj
    have m1 := ixD_some hmo
    have w1 := wkD_some hj
    have y1 : nmQ (tx.extract 20 24) = y := y1
    have m1 : ixD 12 moS (tx.extract 4 7) = (mo : Int) := m1
    have hT : tmC (tx.extract 11 19) := hT
    have hH : hmsB (tx.extract 11 19) = true := hH
    rw [fo3_pos ⟨by omega, ⟨hz, (bt_get tx 3 32 (by omega)).2 c3, (bt_get tx 7 32 (by omega)).2 c7, (bt_get tx 10 32 (by omega)).2 c10, (bt_get tx 19 32 (by omega)).2 c19⟩, hT, hH, by omega, by omega, by omega⟩, d1, y1, m1, w1]
    unfold tmX
    rw [show nmQ ((tx.extract 11 19).extract 0 2) = h from r1, show nmQ ((tx.extract 11 19).extract 3 5) = i from r2, show nmQ ((tx.extract 11 19).extract 6 (tx.extract 11 19).size) = s from r3]
/-- The document's second form: the place of the first comma, what stands from there. -/
structure Cma (tx : ByteArray) (a : Nat) : Prop where
  le : a ≤ tx.size
  bef : ∀ j, j < a → bt tx j ≠ 44
  at_ : a < tx.size → bt tx a = 44
theorem cma_ex (tx : ByteArray) : ∃ a, Cma tx a := by
  suffices H : ∀ n a, tx.size - a = n → a ≤ tx.size → (∀ j, j < a → bt tx j ≠ 44) → ∃ a, Cma tx a from H _ 0 rfl (by omega) (fun j h => by omega)
  intro n
  induction n with
  | zero => intro a h1 h2 h3; exact ⟨a, h2, h3, fun h => by omega⟩
  | succ n ih =>
    intro a h1 h2 h3
    by_cases h : bt tx a = 44
    · exact ⟨a, h2, h3, fun _ => h⟩
    · refine ih (a + 1) (by omega) (by omega) fun j hj => ?_
      rcases Nat.lt_or_ge j a with h4 | h4
      · exact h3 j h4
      · obtain rfl : j = a := by omega
        exact h
def f2C (r : ByteArray) : Prop := r.size = 24 ∧ r.extract 0 2 = ⟨#[44, 32]⟩ ∧ bt r 4 = 45 ∧ bt r 8 = 45 ∧ bt r 11 = 32 ∧ r.extract 20 24 = ⟨#[32, 71, 77, 84]⟩
def f2P (tx : ByteArray) (a : Nat) : Prop := 0 ≤ ixD 7 wdS (tx.extract 0 a) ∧ f2C (tx.extract a tx.size) ∧ 0 ≤ nmQ ((tx.extract a tx.size).extract 2 4) ∧ 1 ≤ ixD 12 moS ((tx.extract a tx.size).extract 5 8) + 1 ∧ 0 ≤ nmQ ((tx.extract a tx.size).extract 9 11) ∧ tmC ((tx.extract a tx.size).extract 12 20) ∧ hmsB ((tx.extract a tx.size).extract 12 20) = true
open Classical in
noncomputable def fo2 (tx : ByteArray) (a : Nat) (yr : Int → Int) : Option Fd := if f2P tx a then some (tmX ((tx.extract a tx.size).extract 12 20) (yr (nmQ ((tx.extract a tx.size).extract 9 11))) (ixD 12 moS ((tx.extract a tx.size).extract 5 8) + 1) (nmQ ((tx.extract a tx.size).extract 2 4)) (ixD 7 wdS (tx.extract 0 a))) else none
theorem fo2_pos {tx : ByteArray} {a : Nat} {yr : Int → Int} (h : f2P tx a) : fo2 tx a yr = some (tmX ((tx.extract a tx.size).extract 12 20) (yr (nmQ ((tx.extract a tx.size).extract 9 11))) (ixD 12 moS ((tx.extract a tx.size).extract 5 8) + 1) (nmQ ((tx.extract a tx.size).extract 2 4)) (ixD 7 wdS (tx.extract 0 a))) := if_pos h
theorem fo2_neg {tx : ByteArray} {a : Nat} {yr : Int → Int} (h : ¬ f2P tx a) : fo2 tx a yr = none := if_neg h
theorem wd_nine6 (k : Nat) (hk : k < 7) : (wdS k).data.toList.take 9 = (wdS k).data.toList := by
  rcases (by omega : k = 0 ∨ k = 1 ∨ k = 2 ∨ k = 3 ∨ k = 4 ∨ k = 5 ∨ k = 6) with rfl | rfl | rfl | rfl | rfl | rfl | rfl
  all_goals decide
theorem wdS_low : ∀ k, k < 7 → ∀ j, j < (wdS k).size → bt (wdS k) j ≠ 44 := by decide +kernel
theorem wdS_one : ∀ k, k < 7 → ∀ j, j < k → decide (wdS j = wdS k) = false := by decide +kernel
theorem ixN_lt {n : Nat} {S : Nat → ByteArray} {s : ByteArray} {j : Nat} (h : ixN n S s = some j) : j < n ∧ S j = s := by
  unfold ixN at h
  have h1 := List.mem_of_find?_eq_some h
  have h2 := List.find?_some h
  exact ⟨by simpa using h1, by simpa using h2⟩
/-- The weekday's whole name before the first comma. -/
theorem wk9_iff {tx : ByteArray} {a : Nat} (hc : Cma tx a) (j : Nat) :
    (ixN 7 wdS (tx.extract 0 a) = some j) ∧ a < tx.size ↔ wdI 9 tx.data.toList = some j ∧ tx.data.toList[((wdS j).data.toList.take 9).length]? = some 44 ∧ a = ((wdS j).data.toList.take 9).length := by
  constructor
  · rintro ⟨h, hlt⟩
    obtain ⟨hj, he⟩ := ixN_lt h
    have hs : (wdS j).size = a := by rw [he, ByteArray.size_extract]; omega
    have hl : ((wdS j).data.toList.take 9).length = a := by rw [wd_nine6 j hj, ← ba_size', hs]
    have hL : tx.data.toList = (wdS j).data.toList.take 9 ++ tx.data.toList.drop a := by
      rw [wd_nine6 j hj, he, Lib.extract_data, List.drop_zero, Nat.sub_zero, List.take_append_drop]
    refine ⟨?_, ?_, hl.symm⟩
    · rw [hL]; exact wd_full j hj _
    · rw [hl]
      exact (bt_get tx a 44 hlt).1 (hc.at_ hlt)
  · rintro ⟨h, hc44, hl⟩
    have hj := wdI_lt h
    have hp : Lib.hasPrefix tx.data.toList ((wdS j).data.toList.take 9) = true := by
      unfold wdI at h
      have h2 := List.find?_some (p := fun i => Lib.hasPrefix tx.data.toList ((wdS i).data.toList.take 9)) h
      exact h2
    have hlt : a < tx.size := by rw [hl]; exact get_lt hc44
    have he : tx.extract 0 a = wdS j := by
      have := (pre_ext tx 0 ((wdS j).data.toList.take 9)).1 (by rw [List.drop_zero]; exact hp)
      rw [← hl, Nat.zero_add, wd_nine6 j hj, ofL_self] at this
      exact this
    refine ⟨?_, hlt⟩
    unfold ixN
    rw [he]
    exact find_hit hj (by simp) (wdS_one j hj)
theorem cma_wd {tx : ByteArray} {a : Nat} (hc : Cma tx a) {j : Nat} (h : wdI 9 tx.data.toList = some j) (hc44 : tx.data.toList[((wdS j).data.toList.take 9).length]? = some 44) : a = ((wdS j).data.toList.take 9).length := by
  have hj := wdI_lt h
  have hp : Lib.hasPrefix tx.data.toList ((wdS j).data.toList.take 9) = true := by
    unfold wdI at h
    have h2 := List.find?_some (p := fun i => Lib.hasPrefix tx.data.toList ((wdS i).data.toList.take 9)) h
    exact h2
  have he := (pre_ext tx 0 ((wdS j).data.toList.take 9)).1 (by rw [List.drop_zero]; exact hp)
  have hlt := get_lt hc44
  generalize hn : ((wdS j).data.toList.take 9).length = n at *
  rw [Nat.zero_add, wd_nine6 j hj, ofL_self] at he
  have hb : bt tx n = 44 := (bt_get tx n 44 hlt).2 hc44
  rcases Nat.lt_trichotomy a n with h1 | h1 | h1
  · exfalso
    have h2 := hc.at_ (by omega)
    have h3 : tx.data.toList[a]? = some 44 := (bt_get tx a 44 (by omega)).1 h2
    have h4 : (wdS j).data.toList[a]? = some 44 := by
      rw [← he, Lib.extract_data, List.drop_zero, Nat.sub_zero, List.getElem?_take_of_lt h1]; exact h3
    have h5 := get_lt h4
    exact wdS_low j hj a h5 ((bt_get (wdS j) a 44 h5).2 h4)
  · exact h1
  · exact absurd hb (hc.bef n h1)
theorem fo2_eq (tx : ByteArray) (a : Nat) (hc : Cma tx a) (yr : Int → Int) : fo2 tx a yr = (allS (patS 1).data.toList (fd0 tx.data.toList)).map fun g => { g with y := yr g.y } := by
  have hr : (tx.extract a tx.size).data.toList = tx.data.toList.drop a := by
    rw [Lib.extract_data, List.take_of_length_le (by rw [List.length_drop, ← ba_size']; omega)]
  have hs : (tx.extract a tx.size).size = tx.size - a := by rw [ByteArray.size_extract]; omega
  refine Option.ext fun g => ?_
  show fo2 tx a yr = some g ↔ ((allS (patS 1).data.toList (fd0 tx.data.toList)).map fun g => { g with y := yr g.y }) = some g
  rw [Option.map_eq_some_iff]
  constructor
  · intro hg
    by_cases hP : f2P tx a
    · rw [fo2_pos hP] at hg
      cases hg
      obtain ⟨hw, ⟨hz, h0, h4, h8, h11, h20⟩, hd, hm, hy, hT, hH⟩ := hP
      obtain ⟨j, hj, hj2⟩ := ixD_of hw
      obtain ⟨w1, w2, w3⟩ := (wk9_iff hc j).1 ⟨hj, by omega⟩
      obtain ⟨mo, hmo, hmo2⟩ := ixD_of (show 0 ≤ ixD 12 moS ((tx.extract a tx.size).extract 5 8) by omega)
      rw [mo_ix _ 5] at hmo
      obtain ⟨c0, c1⟩ := (ext_two _ 0 44 32).1 h0
      obtain ⟨c20, c21, c22, c23⟩ := (ext_four _ 20 32 71 77 84).1 h20
      obtain ⟨t1, t2, t3, t4, t5⟩ := (time_iff (tx.extract a tx.size) 12 (by omega) _ _ _).1 ⟨hT, hH, rfl, rfl, rfl⟩
      have n1 := nm_of (k := 2) (w := 2) (by omega) hd
      have n2 := nm_of (k := 9) (w := 2) (by omega) hy
      have b4 := (bt_get _ 4 45 (by omega)).1 h4
      have b8 := (bt_get _ 8 45 (by omega)).1 h8
      have b11 := (bt_get _ 11 32 (by omega)).1 h11
      rw [hr] at hmo c0 c1 c20 c21 c22 c23 t1 t2 t3 t4 t5 n1 n2 b4 b8 b11
      simp only [List.drop_drop, List.getElem?_drop, Nat.add_zero, Nat.zero_add, Nat.reduceAdd] at hmo c0 c1 c20 c21 c22 c23 t1 t2 t3 t4 t5 n1 n2 b4 b8 b11
      refine ⟨_, (all1_iff _ _).2 ⟨j, w1, a, w3, c0, c1, _, n1, b4, mo, hmo, b8, _, n2, b11, _, t1, t2, _, t3, t4, _, t5, c20, c21, c22, c23, by rw [← ba_size']; omega, rfl⟩, ?_⟩
      unfold tmX
      rw [hj2, hmo2]
    · rw [fo2_neg hP] at hg; cases hg
  · rintro ⟨f, hf, rfl⟩
    obtain ⟨j, hj, n, hn, c0, c1, d, hd, c4, mo, hmo, c8, y, hy, c11, h, t1, t2, i, t3, t4, s, t5, c20, c21, c22, c23, hle, rfl⟩ := (all1_iff _ _).1 hf
    have hz24 : tx.size = n + 24 := by have := get_lt c23; rw [← ba_size'] at hle; omega
    have han : a = n := by rw [hn]; exact cma_wd hc hj (by rw [← hn]; exact c0)
    subst han
    have hix := ((wk9_iff hc j).2 ⟨hj, by rw [← hn]; exact c0, hn⟩).1
    have hz : (tx.extract a tx.size).size = 24 := by omega
    have c0 : (tx.data.toList.drop a)[0]? = some 44 := by rw [List.getElem?_drop]; exact c0
    have c1 : (tx.data.toList.drop a)[1]? = some 32 := by rw [List.getElem?_drop]; exact c1
    have c4 : (tx.data.toList.drop a)[4]? = some 45 := by rw [List.getElem?_drop]; exact c4
    have c8 : (tx.data.toList.drop a)[8]? = some 45 := by rw [List.getElem?_drop]; exact c8
    have c11 : (tx.data.toList.drop a)[11]? = some 32 := by rw [List.getElem?_drop]; exact c11
    have c20 : (tx.data.toList.drop a)[20]? = some 32 := by rw [List.getElem?_drop]; exact c20
    have c21 : (tx.data.toList.drop a)[21]? = some 71 := by rw [List.getElem?_drop]; exact c21
    have c22 : (tx.data.toList.drop a)[22]? = some 77 := by rw [List.getElem?_drop]; exact c22
    have c23 : (tx.data.toList.drop a)[23]? = some 84 := by rw [List.getElem?_drop]; exact c23
    have t2 : (tx.data.toList.drop a)[12 + 2]? = some 58 := by rw [List.getElem?_drop]; exact t2
    have t4 : (tx.data.toList.drop a)[12 + 5]? = some 58 := by rw [List.getElem?_drop]; exact t4
    have t1 : numL 2 ((tx.data.toList.drop a).drop 12) = some h := by rw [List.drop_drop]; exact t1
    have t3 : numL 2 ((tx.data.toList.drop a).drop (12 + 3)) = some i := by rw [List.drop_drop]; exact t3
    have t5 : numL 2 ((tx.data.toList.drop a).drop (12 + 6)) = some s := by rw [List.drop_drop]; exact t5
    have hd : numL 2 ((tx.data.toList.drop a).drop 2) = some d := by rw [List.drop_drop]; exact hd
    have hy : numL 2 ((tx.data.toList.drop a).drop 9) = some y := by rw [List.drop_drop]; exact hy
    have hmo : moI ((tx.data.toList.drop a).drop 5) = some mo := by rw [List.drop_drop]; exact hmo
    rw [← hr] at c0 c1 c4 c8 c11 c20 c21 c22 c23 t1 t2 t3 t4 t5 hd hy hmo
    obtain ⟨hT, hH, r1, r2, r3⟩ := (time_iff (tx.extract a tx.size) 12 (by omega) h i s).2 ⟨t1, t2, t3, t4, t5⟩
    obtain ⟨d1, d2⟩ := nm_to hd
    obtain ⟨y1, y2⟩ := nm_to hy
    rw [← mo_ix _ 5] at hmo
    have m1 : ixD 12 moS ((tx.extract a tx.size).extract 5 8) = (mo : Int) := ixD_some hmo
    have w1 := ixD_some hix
    have d1 : nmQ ((tx.extract a tx.size).extract 2 4) = d := d1
    have y1 : nmQ ((tx.extract a tx.size).extract 9 11) = y := y1
    have hT : tmC ((tx.extract a tx.size).extract 12 20) := hT
    have hH : hmsB ((tx.extract a tx.size).extract 12 20) = true := hH
    rw [fo2_pos ⟨by omega, ⟨hz, (ext_two _ 0 44 32).2 ⟨c0, c1⟩, (bt_get _ 4 45 (by omega)).2 c4, (bt_get _ 8 45 (by omega)).2 c8, (bt_get _ 11 32 (by omega)).2 c11, (ext_four _ 20 32 71 77 84).2 ⟨c20, c21, c22, c23⟩⟩, by omega, by omega, by omega, hT, hH⟩, d1, y1, m1, w1]
    unfold tmX
    rw [show nmQ (((tx.extract a tx.size).extract 12 20).extract 0 2) = h from r1, show nmQ (((tx.extract a tx.size).extract 12 20).extract 3 5) = i from r2, show nmQ (((tx.extract a tx.size).extract 12 20).extract 6 ((tx.extract a tx.size).extract 12 20).size) = s from r3]
/-- Two digits come to at most 99. -/
theorem nm_two (tx : ByteArray) (h : tx.size = 2) : nmQ tx ≤ 99 := by
  unfold nmQ
  split
  · rename_i he
    unfold numV
    rw [if_pos he]
    have hl : tx.data.toList.length = 2 := by rw [← ba_size']; exact h
    unfold numE at he
    split at he
    · cases he
    · split at he
      · cases he
      · rename_i ho
        unfold numOk at ho
        generalize tx.data.toList = L at *
        match L, hl with
        | [x, z], _ =>
          simp at ho
          simp [valN]
          omega
  · omega
/-- What Parse tells by the document's forms is what it tells by the patterns. -/
noncomputable def foK (now : Int) (tx : ByteArray) (a : Nat) : Nat → Option Fd
  | 1 => fo1 tx
  | 2 => fo2 tx a (fun y => latI y (yrN now + 50))
  | _ => fo3 tx
theorem par_eq (now : Int) (tx : ByteArray) (a : Nat) (hc : Cma tx a) (hpl : placeB (now / 86400) = true) : parG (foK now tx a) [1, 2, 3] = parP now tx.data.toList := by
  unfold parP
  rw [if_pos hpl]
  show parG (foK now tx a) [1, 2, 3] = parF now tx.data.toList [0, 1, 2]
  have e1 : foK now tx a 1 = allS (patS 0).data.toList (fd0 tx.data.toList) := (show foK now tx a 1 = fo1 tx from rfl).trans (fo1_eq tx)
  have e2 : foK now tx a 2 = (allS (patS 1).data.toList (fd0 tx.data.toList)).map fun g => { g with y := latI g.y (yrN now + 50) } := (show foK now tx a 2 = fo2 tx a (fun y => latI y (yrN now + 50)) from rfl).trans (fo2_eq tx a hc _)
  have e3 : foK now tx a 3 = allS (patS 2).data.toList (fd0 tx.data.toList) := (show foK now tx a 3 = fo3 tx from rfl).trans (fo3_eq tx)
  simp only [parG, parF, e1, e2, e3]
  cases h0 : allS (patS 0).data.toList (fd0 tx.data.toList) with
  | some g => rfl
  | none =>
    cases h1 : allS (patS 1).data.toList (fd0 tx.data.toList) with
    | some g => rfl
    | none =>
      cases h2 : allS (patS 2).data.toList (fd0 tx.data.toList) with
      | some g => rfl
      | none => rfl
end Go.Proofs.YtgamekfickheaaaGreat
namespace Go.Proofs.YtgamekfickheaaaGreat
open Go.RowKit
set_option linter.unusedVariables false
set_option linter.unusedSimpArgs false

def dC (y m d h i s : Int) : Array Value := #[.int .i64 y, .int .i64 m, .int .i64 d, .int .i64 h, .int .i64 i, .int .i64 s]
/-- The result's cells, still blank, and the date that is being made. -/
structure DF (w : World) (y m d h i s : Int) (W : World) : Prop where
  res : W.heap[w.heap.size]? = some (.cells #[.int .i64 0, .int .i64 0, .int .i64 0, .int .i64 0, .int .i64 0, .int .i64 0] 66 (0, 0))
  box : W.heap[w.heap.size + 1]? = some (.cells #[.int .i64 y, .int .i64 m, .int .i64 d, .int .i64 h, .int .i64 i, .int .i64 s] 66 (0, 0))
  bel : Below w.heap.size w W
theorem DF.below {w W W' : World} {y m d h i s : Int} (H : DF w y m d h i s W) (hb : Below W.heap.size W W') : DF w y m d h i s W' :=
  ⟨(hb.block _ (blk_lt H.res)).trans H.res, (hb.block _ (blk_lt H.box)).trans H.box, H.bel.trans (hb.mono H.bel.size)⟩
theorem DF.new (w : World) : DF w 0 0 0 0 0 0 ((w.alloc (.cells #[.int .i64 0, .int .i64 0, .int .i64 0, .int .i64 0, .int .i64 0, .int .i64 0] 66)).alloc (.cells #[.int .i64 0, .int .i64 0, .int .i64 0, .int .i64 0, .int .i64 0, .int .i64 0] 66)) := by
  refine ⟨blk_alloc (heap_alloc_new w _), ?_, ((Below.refl w.heap.size w).alloc (Nat.le_refl _) _).alloc (by simp) _⟩
  have := heap_alloc_new (w.alloc (.cells #[.int .i64 0, .int .i64 0, .int .i64 0, .int .i64 0, .int .i64 0, .int .i64 0] 66)) (.cells #[.int .i64 0, .int .i64 0, .int .i64 0, .int .i64 0, .int .i64 0, .int .i64 0] 66)
  rwa [World.size_alloc] at this
theorem DF.setY {w W : World} {y m d h i s : Int} (H : DF w y m d h i s W) (v : Int) : DF w v m d h i s (W.setCell ⟨w.heap.size + 1, 0, none⟩ (.int .i64 v)) :=
  ⟨blk_set_other H.res (by omega) _, blk_set H.box _, H.bel.setCell (p := ⟨w.heap.size + 1, 0, none⟩) (Nat.le_succ _) _⟩
theorem DF.setM {w W : World} {y m d h i s : Int} (H : DF w y m d h i s W) (v : Int) : DF w y v d h i s (W.setCell ⟨w.heap.size + 1, 1, none⟩ (.int .i64 v)) :=
  ⟨blk_set_other H.res (by omega) _, blk_set H.box _, H.bel.setCell (p := ⟨w.heap.size + 1, 1, none⟩) (Nat.le_succ _) _⟩
theorem DF.setD {w W : World} {y m d h i s : Int} (H : DF w y m d h i s W) (v : Int) : DF w y m v h i s (W.setCell ⟨w.heap.size + 1, 2, none⟩ (.int .i64 v)) :=
  ⟨blk_set_other H.res (by omega) _, blk_set H.box _, H.bel.setCell (p := ⟨w.heap.size + 1, 2, none⟩) (Nat.le_succ _) _⟩
/-- The result's cells, written. -/
def dSet (w : World) (a b c d e f : Int) (W : World) : World := (((((W.setCell ⟨w.heap.size, 0, none⟩ (.int .i64 a)).setCell ⟨w.heap.size, 1, none⟩ (.int .i64 b)).setCell ⟨w.heap.size, 2, none⟩ (.int .i64 c)).setCell ⟨w.heap.size, 3, none⟩ (.int .i64 d)).setCell ⟨w.heap.size, 4, none⟩ (.int .i64 e)).setCell ⟨w.heap.size, 5, none⟩ (.int .i64 f)
theorem DF.done {w W : World} {y m d h i s : Int} (H : DF w y m d h i s W) (a b c e f g : Int) : (dSet w a b c e f g W).heap[w.heap.size]? = some (.cells #[.int .i64 a, .int .i64 b, .int .i64 c, .int .i64 e, .int .i64 f, .int .i64 g] 66 (0, 0)) ∧ Below w.heap.size w (dSet w a b c e f g W) :=
  ⟨blk_set (blk_set (blk_set (blk_set (blk_set (blk_set H.res _) _) _) _) _) _, (((((H.bel.setCell (p := ⟨w.heap.size, 0, none⟩) (Nat.le_refl _) _).setCell (p := ⟨w.heap.size, 1, none⟩) (Nat.le_refl _) _).setCell (p := ⟨w.heap.size, 2, none⟩) (Nat.le_refl _) _).setCell (p := ⟨w.heap.size, 3, none⟩) (Nat.le_refl _) _).setCell (p := ⟨w.heap.size, 4, none⟩) (Nat.le_refl _) _).setCell (p := ⟨w.heap.size, 5, none⟩) (Nat.le_refl _) _⟩
/-- The weekday found among the first k. -/
def wkU (tx : ByteArray) (k : Nat) : Int := match (List.range k).find? (fun i => decide (tx.extract 0 3 = ofL (wd3 i))) with | some j => (j : Int) | none => -1
theorem wkU_all (tx : ByteArray) : wkU tx 7 = wkD tx := rfl
theorem wd3_one : ∀ k, k < 7 → ∀ j, j < k → ¬ wd3 j = wd3 k := by decide +kernel
theorem ofL_inj {a b : List UInt8} (h : ofL a = ofL b) : a = b := by
  have := congrArg (fun x => x.data.toList) h
  simpa [ofL] using this
theorem wkU_hit {tx : ByteArray} {k : Nat} (hk : k < 7) (h : tx.extract 0 3 = ofL (wd3 k)) : wkU tx (k + 1) = (k : Int) := by
  unfold wkU
  rw [find_hit (P := fun i => decide (tx.extract 0 3 = ofL (wd3 i))) (Nat.lt_succ_self k) (decide_eq_true h) (fun j hj => decide_eq_false fun h2 => wd3_one k hk j hj (ofL_inj (h2.symm.trans h)))]
theorem wkU_miss {tx : ByteArray} {k : Nat} (h : ¬ tx.extract 0 3 = ofL (wd3 k)) : wkU tx (k + 1) = wkU tx k := by
  unfold wkU
  rw [List.range_succ, List.find?_append]
  have : ([k].find? fun i => decide (tx.extract 0 3 = ofL (wd3 i))) = none := by simp [h]
  rw [this]
  cases (List.range k).find? (fun i => decide (tx.extract 0 3 = ofL (wd3 i))) <;> rfl
theorem wkU_range (tx : ByteArray) (k : Nat) (hk : k ≤ 7) : -1 ≤ wkU tx k ∧ wkU tx k ≤ 7 := by
  unfold wkU
  split
  · rename_i j h
    have := List.mem_of_find?_eq_some h
    have : j < k := by simpa using this
    omega
  · omega
/-- The result's cells, still blank, and the date that is told. -/
structure SH (w : World) (sh : Nat) (y m d h i s : Int) (W : World) : Prop where
  res : W.heap[w.heap.size]? = some (.cells #[.int .i64 0, .int .i64 0, .int .i64 0, .int .i64 0, .int .i64 0, .int .i64 0] 66 (0, 0))
  box : W.heap[sh]? = some (.cells #[.int .i64 y, .int .i64 m, .int .i64 d, .int .i64 h, .int .i64 i, .int .i64 s] 66 (0, 0))
  bel : Below w.heap.size w W
  lt : w.heap.size < sh
theorem SH.done {w W : World} {sh : Nat} {y m d h i s : Int} (H : SH w sh y m d h i s W) (a b c e f g : Int) : (dSet w a b c e f g W).heap[w.heap.size]? = some (.cells #[.int .i64 a, .int .i64 b, .int .i64 c, .int .i64 e, .int .i64 f, .int .i64 g] 66 (0, 0)) ∧ Below w.heap.size w (dSet w a b c e f g W) :=
  ⟨blk_set (blk_set (blk_set (blk_set (blk_set (blk_set H.res _) _) _) _) _) _, (((((H.bel.setCell (p := ⟨w.heap.size, 0, none⟩) (Nat.le_refl _) _).setCell (p := ⟨w.heap.size, 1, none⟩) (Nat.le_refl _) _).setCell (p := ⟨w.heap.size, 2, none⟩) (Nat.le_refl _) _).setCell (p := ⟨w.heap.size, 3, none⟩) (Nat.le_refl _) _).setCell (p := ⟨w.heap.size, 4, none⟩) (Nat.le_refl _) _).setCell (p := ⟨w.heap.size, 5, none⟩) (Nat.le_refl _) _⟩
theorem blk_drew6 {w : World} {b : Nat} {o : Obj} (h : w.heap[b]? = some o) : w.drew.heap[b]? = some o := h
theorem SH.drew {w W : World} {sh : Nat} {y m d h i s : Int} (H : SH w sh y m d h i s W) : SH w sh y m d h i s W.drew := ⟨H.res, H.box, H.bel.drew, H.lt⟩
theorem SH.fin {w W : World} {sh : Nat} {y m d h i s : Int} (H : SH w sh y m d h i s W) (a b c e f g : Int) : (dSet w a b c e f g W).drew.heap[w.heap.size]? = some (.cells #[.int .i64 a, .int .i64 b, .int .i64 c, .int .i64 e, .int .i64 f, .int .i64 g] 66 (0, 0)) ∧ Below w.heap.size w (dSet w a b c e f g W).drew := ⟨blk_drew6 (H.done a b c e f g).1, (H.done a b c e f g).2.drew⟩
theorem SH.new {w W : World} {y m d h i s : Int} (H : DF w y m d h i s W) (a b c e f g : Int) : SH w W.heap.size a b c e f g (W.alloc (.cells #[.int .i64 a, .int .i64 b, .int .i64 c, .int .i64 e, .int .i64 f, .int .i64 g] 66)) :=
  ⟨blk_alloc H.res, heap_alloc_new W _, H.bel.alloc H.bel.size _, Nat.lt_of_succ_lt (blk_lt H.box)⟩
theorem SH.two {w W : World} {sh : Nat} {y m d h i s : Int} {cs : Array Value} (H : DF w y m d h i s W) (hb : W.heap[sh]? = some (.cells cs 66 (0, 0))) (hs : w.heap.size < sh) (hne : w.heap.size + 1 ≠ sh) (a b c e f g : Int) :
    True ∧ ((((((W.setCell ⟨sh, 0, none⟩ (.int .i64 a)).setCell ⟨sh, 1, none⟩ (.int .i64 b)).setCell ⟨sh, 2, none⟩ (.int .i64 c)).setCell ⟨sh, 3, none⟩ (.int .i64 e)).setCell ⟨sh, 4, none⟩ (.int .i64 f)).setCell ⟨sh, 5, none⟩ (.int .i64 g)).heap[w.heap.size + 1]? = some (.cells #[.int .i64 y, .int .i64 m, .int .i64 d, .int .i64 h, .int .i64 i, .int .i64 s] 66 (0, 0)) :=
  ⟨trivial, blk_set_other (blk_set_other (blk_set_other (blk_set_other (blk_set_other (blk_set_other H.box hne _) hne _) hne _) hne _) hne _) hne _⟩
theorem SH.set {w W : World} {sh : Nat} {y m d h i s : Int} {cs : Value × Value × Value × Value × Value × Value} (H : DF w y m d h i s W) (hs : w.heap.size < sh) (hb : W.heap[sh]? = some (.cells #[cs.1, cs.2.1, cs.2.2.1, cs.2.2.2.1, cs.2.2.2.2.1, cs.2.2.2.2.2] 66 (0, 0))) (a b c e f g : Int) :
    SH w sh a b c e f g ((((((W.setCell ⟨sh, 0, none⟩ (.int .i64 a)).setCell ⟨sh, 1, none⟩ (.int .i64 b)).setCell ⟨sh, 2, none⟩ (.int .i64 c)).setCell ⟨sh, 3, none⟩ (.int .i64 e)).setCell ⟨sh, 4, none⟩ (.int .i64 f)).setCell ⟨sh, 5, none⟩ (.int .i64 g)) := by
  have hn : w.heap.size ≠ sh := by omega
  exact ⟨blk_set_other (blk_set_other (blk_set_other (blk_set_other (blk_set_other (blk_set_other H.res hn _) hn _) hn _) hn _) hn _) hn _, blk_set (blk_set (blk_set (blk_set (blk_set (blk_set hb _) _) _) _) _) _, (((((H.bel.setCell (p := ⟨sh, 0, none⟩) (Nat.le_of_lt hs) _).setCell (p := ⟨sh, 1, none⟩) (Nat.le_of_lt hs) _).setCell (p := ⟨sh, 2, none⟩) (Nat.le_of_lt hs) _).setCell (p := ⟨sh, 3, none⟩) (Nat.le_of_lt hs) _).setCell (p := ⟨sh, 4, none⟩) (Nat.le_of_lt hs) _).setCell (p := ⟨sh, 5, none⟩) (Nat.le_of_lt hs) _, hs⟩
/-- Time of any text. -/
theorem dtime_any6 (T : ByteArray) (y m d : Int) (hs : T.size ≤ 100000) : ∃ (BB : Bool) (th tm ts : Int), (∀ w, Calls Tryz.prog 129 #[.string T, .agg #[.int .i64 y, .int .i64 m, .int .i64 d, .int .i64 0, .int .i64 0, .int .i64 0]] w fun e w' => e = .returned (.tuple #[.agg #[.int .i64 y, .int .i64 m, .int .i64 d, .int .i64 th, .int .i64 tm, .int .i64 ts], .bool BB]) ∧ Below w.heap.size w w') ∧
    ((BB = true ∧ tmC T ∧ hmsB T = true ∧ nmQ (T.extract 0 2) = th ∧ nmQ (T.extract 3 5) = tm ∧ nmQ (T.extract 6 T.size) = ts) ∨ (BB = false ∧ ¬ (tmC T ∧ hmsB T = true))) := by
  by_cases hT : tmC T
  · refine ⟨hmsB T, _, _, _, fun w => dtime_ok T y m d 0 0 0 w hT.1 hT.2.1 hT.2.2, ?_⟩
    cases hH : hmsB T
    · exact .inr ⟨rfl, fun h => by cases h.2⟩
    · exact .inl ⟨rfl, hT, rfl, rfl, rfl, rfl⟩
  · exact ⟨false, 0, 0, 0, fun w => dtime_bad T y m d 0 0 0 w hs hT, .inr ⟨rfl, fun h => hT h.1⟩⟩
theorem cells6D {W : World} {b : Nat} {t : TypeId} {v0 v1 v2 v3 v4 v5 : Value} (h : W.heap[b]? = some (.cells #[v0, v1, v2, v3, v4, v5] t (0, 0))) : W.cell? ⟨b, 0, none⟩ = some v0 ∧ W.cell? ⟨b, 1, none⟩ = some v1 ∧ W.cell? ⟨b, 2, none⟩ = some v2 ∧ W.cell? ⟨b, 3, none⟩ = some v3 ∧ W.cell? ⟨b, 4, none⟩ = some v4 ∧ W.cell? ⟨b, 5, none⟩ = some v5 :=
  ⟨blk_cell (i := 0) h rfl, blk_cell (i := 1) h rfl, blk_cell (i := 2) h rfl, blk_cell (i := 3) h rfl, blk_cell (i := 4) h rfl, blk_cell (i := 5) h rfl⟩
theorem wrapQ (n : Int) (h1 : -9223372036854775808 ≤ n) (h2 : n ≤ 9223372036854775807) : IntKind.i64.wrap n = n := by
  simp [IntKind.wrap, IntKind.signed, IntKind.bits, wrap64]; omega
theorem ixD_range (n : Nat) (S : Nat → ByteArray) (s : ByteArray) : -1 ≤ ixD n S s ∧ ixD n S s ≤ n := by
  unfold ixD
  cases h : ixN n S s with
  | none => exact ⟨by decide, by show (-1 : Int) ≤ _; omega⟩
  | some j => have := (ixN_lt h).1; exact ⟨by show (-1 : Int) ≤ (j : Int); omega, by show (j : Int) ≤ _; omega⟩
theorem RetFo.bad {o : Option Fd} {w W : World} {y m d h i s wk : Int} (hn : o = none) (hb : Below w.heap.size w W) : RetFo o w (.returned (.tuple #[.agg #[.int .i64 y, .int .i64 m, .int .i64 d, .int .i64 h, .int .i64 i, .int .i64 s], .int .i64 wk, .bool false])) W :=
  ⟨⟨[], y, m, d, h, i, s, wk⟩, by rw [hn]; rfl, hb, fun f hf => by rw [hn] at hf; cases hf⟩
theorem RetFo.good {o : Option Fd} {w W : World} {f : Fd} (hn : o = some f) (hb : Below w.heap.size w W) : RetFo o w (.returned (.tuple #[.agg #[.int .i64 f.y, .int .i64 f.m, .int .i64 f.d, .int .i64 f.h, .int .i64 f.i, .int .i64 f.s], .int .i64 f.wk, .bool true])) W :=
  ⟨f, by rw [hn]; rfl, hb, fun g hg => by rw [hn] at hg; cases hg; rfl⟩
theorem ba_neq6 {a b : ByteArray} (h : a ≠ b) : (a.toList != b.toList) = true := by rw [bne, ba_tlb6 h]; rfl
theorem ba_neq6' {a b : ByteArray} (h : a = b) : (a.toList != b.toList) = false := by rw [h, bne_self_eq_false]
end Go.Proofs.YtgamekfickheaaaGreat
