/- Lengths (layer 18): what stands between the commas of a text, plain; strings.Split at one octet (its two callees need no variable there). -/
import Derived.Test.YtkfpioadimkogaaGreatDoorFew
import Derived.Test.YtkfpioadimkogaaGreatDoorTxt
import Derived.Shelf.Strings.SplitCore
import Derived.Shelf.Strings.Search3
import Derived.Shelf.Strings.Count
import Derived.Lib.SplitLaws
namespace Go.Proofs
open Go.Shelf Go.RowKit Go.Lib
set_option maxHeartbeats 1000000 in
theorem split_one {P : Program} {ρ : Ren} (L : Lays.n146 P ρ) (hi9 : (P.info? (ρ.t 9)).map (fun i => (i.zero, i.size, i.bytes)) = some (some (.string ByteArray.empty), 1, 16)) (s : ByteArray) (c : UInt8) (w : World)
    (hs : s.size < 4294967281) :
    Calls P (ρ.f 146) #[.string s, .string ⟨#[c]⟩] w fun e w' =>
      e = .returned (.slice (some ⟨w.heap.size, 0, none⟩) (Lib.countB s ⟨#[c]⟩ + 1) (Lib.countB s ⟨#[c]⟩ + 1)) ∧ w' = w.alloc (.cells ((Lib.splitB ⟨#[c]⟩ 0 (Lib.countB s ⟨#[c]⟩) s).map Value.string).toArray (ρ.t 9)) := by
  have h1 : 1 ≤ (⟨#[c]⟩ : ByteArray).size := Nat.le_refl 1
  have hle := Lib.countB_le ⟨#[c]⟩ h1 s.size s (Nat.le_refl _)
  have hlen := Lib.splitB_all ⟨#[c]⟩ h1 0 _ s rfl
  have hC : Calls P (ρ.f 138) #[.string s, .string ⟨#[c]⟩] w fun e w' => e = .returned (.int .i64 (Lib.countB s ⟨#[c]⟩)) ∧ w' = w := by
    refine (Any.strings_Count_one { L with } s c w).mono fun e w' ⟨he, hw⟩ => ⟨?_, hw⟩
    rw [he]
    show _ = Ending.returned (Value.int .i64 ((Lib.count s.data.toList [c] : Nat) : Int))
    rw [Lib.count_one]
    rfl
  have hI : ∀ (x : ByteArray) (cs : Array Value), x.size ≤ s.size → Calls P (ρ.f 143) #[.string x, .string ⟨#[c]⟩] (w.alloc (.cells cs (ρ.t 9))) fun e w' => e = .returned (.int .i64 (Lib.indexB x ⟨#[c]⟩)) ∧ w' = w.alloc (.cells cs (ρ.t 9)) := fun x cs _ =>
    (Any.strings_Index_one { L with } x c _).mono fun e w' ⟨he, hw⟩ => ⟨by rw [he]; show _ = Ending.returned (Value.int .i64 (Lib.index x.data.toList [c])); rw [Lib.index_one], hw⟩
  have g := Any.strings_genSplit_core { L with } hi9 s ⟨#[c]⟩ 0 (-1) (Lib.countB s ⟨#[c]⟩ + 1) w hs h1 (Nat.zero_le _) hI hC (by decide) (by decide) (by rw [if_pos (by decide)]; omega)
  rw [Nat.add_sub_cancel, hlen] at g
  have e2 : Lib.cellsOf (Lib.splitB ⟨#[c]⟩ 0 (Lib.countB s ⟨#[c]⟩) s) (Lib.countB s ⟨#[c]⟩ + 1) = ((Lib.splitB ⟨#[c]⟩ 0 (Lib.countB s ⟨#[c]⟩) s).map Value.string).toArray := by rw [← hlen]; exact Lib.cellsOf_full _
  rw [e2] at g
  have t3 := L.t3; have t9 := L.t9; have t31 := L.t31
  have a3 := L.a3; have a9 := L.a9; have a31 := L.a31
  have z3 := L.z3; have v3 := L.v3; have z9 := L.z9; have v9 := L.v9; have z31 := L.z31; have v31 := L.v31
  have e221 : ∀ args w, (callFunc (ρ.f 221) args).run P w = .ok (.enter (ρ.f 221) args) w := enters_of L.f221 (by kernel_rfl) rfl
  go_enter L.f146, Body.n146_ntmps ρ
  go_wp2_with (go_at_fn (ρ.f 221); refine g.mono ?_; rintro e w' ⟨rfl, hw⟩; rw [hw])
  go_ret
  exact ⟨rfl, rfl⟩
end Go.Proofs
namespace Go.Proofs.YtkfpioadimkogaaGreatDoor
open Go.RowKit
set_option linter.unusedVariables false
set_option linter.unusedSimpArgs false

/-- The parts of octets between commas; cur has begun. -/
def cml (cur : List UInt8) : List UInt8 → List (List UInt8)
  | [] => [cur]
  | c :: l => if c = 44 then cur :: cml [] l else cml (cur ++ [c]) l
theorem cml_hit : ∀ (l cur : List UInt8) (i : Nat), Lib.index l [44] = i → cml cur l = (cur ++ l.take i) :: cml [] (l.drop (i + 1))
  | [], cur, i, h => by
    simp [Lib.index] at h
  | c :: l, cur, i, h => by
    rw [Lib.index] at h
    by_cases hc : c = 44
    · subst hc
      simp [List.isPrefixOf] at h
      obtain rfl : i = 0 := by omega
      rw [cml, if_pos rfl]; simp
    · have hp : ([44] : List UInt8).isPrefixOf (c :: l) = false := by simp [List.isPrefixOf, Ne.symm hc]
      rw [if_neg (by rw [hp]; decide)] at h
      split at h
      · omega
      · have hge := Lib.index_ge l [44]
        obtain ⟨j, hj⟩ : ∃ j : Nat, Lib.index l [44] = j := ⟨(Lib.index l [44]).toNat, by rename_i q; rw [beq_iff_eq] at q; omega⟩
        obtain rfl : i = j + 1 := by omega
        rw [cml, if_neg hc, cml_hit l (cur ++ [c]) j hj]
        simp
theorem cml_miss : ∀ (l cur : List UInt8), Lib.index l [44] = -1 → cml cur l = [cur ++ l]
  | [], cur, h => by simp [cml]
  | c :: l, cur, h => by
    rw [Lib.index] at h
    by_cases hc : c = 44
    · subst hc
      simp [List.isPrefixOf] at h
    · have hp : ([44] : List UInt8).isPrefixOf (c :: l) = false := by simp [List.isPrefixOf, Ne.symm hc]
      rw [if_neg (by rw [hp]; decide)] at h
      split at h
      · rename_i q
        rw [cml, if_neg hc, cml_miss l (cur ++ [c]) (beq_iff_eq.1 q)]
        simp
      · have hge := Lib.index_ge l [44]
        rename_i q
        rw [beq_iff_eq] at q
        omega
theorem splitK_cml : ∀ (k : Nat) (l : List UInt8), Lib.count l [44] = k → Lib.splitK [44] 0 k l = cml [] l := by
  intro k
  induction k with
  | zero =>
    intro l h
    by_cases hm : Lib.index l [44] = -1
    · rw [cml_miss l [] hm]; rfl
    · have hge := Lib.index_ge l [44]
      obtain ⟨j, hj⟩ : ∃ j : Nat, Lib.index l [44] = j := ⟨(Lib.index l [44]).toNat, by omega⟩
      rw [Lib.count_hit (by simp) hj] at h
      omega
  | succ k ih =>
    intro l h
    by_cases hm : Lib.index l [44] = -1
    · rw [Lib.count_miss hm] at h; omega
    · have hge := Lib.index_ge l [44]
      obtain ⟨j, hj⟩ : ∃ j : Nat, Lib.index l [44] = j := ⟨(Lib.index l [44]).toNat, by omega⟩
      rw [Lib.count_hit (by simp) hj] at h
      have h2 : Lib.count (l.drop (j + 1)) [44] = k := by have e : ([44] : List UInt8).length = 1 := rfl; rw [e] at h; omega
      rw [cml_hit l [] j hj, Lib.splitK, if_neg (by rw [beq_iff_eq]; exact hm), hj]
      have e : (j : Int).toNat = j := by omega
      rw [e]
      show _ :: Lib.splitK [44] 0 k (l.drop (j + 1)) = _
      rw [ih _ h2]
      simp
/-- .. as a state by index: where the part began, the parts before it. -/
def cmAt (s : ByteArray) : Nat → Nat × List ByteArray
  | 0 => (0, [])
  | k + 1 => if bt s k = 44 then (k + 1, (cmAt s k).2 ++ [s.extract (cmAt s k).1 k]) else cmAt s k
def cmK (s : ByteArray) : List ByteArray := (cmAt s s.size).2 ++ [s.extract (cmAt s s.size).1 s.size]
theorem cmAt_fr (s : ByteArray) : ∀ k, (cmAt s k).1 ≤ k
  | 0 => Nat.le_refl 0
  | k + 1 => by
    unfold cmAt
    split
    · exact Nat.le_refl _
    · exact Nat.le_succ_of_le (cmAt_fr s k)
theorem cmAt_len (s : ByteArray) : ∀ k, (cmAt s k).2.length ≤ k
  | 0 => Nat.le_refl 0
  | k + 1 => by
    unfold cmAt
    split
    · simp; exact cmAt_len s k
    · exact Nat.le_succ_of_le (cmAt_len s k)
theorem cmAt_hit {s : ByteArray} {k : Nat} (h : bt s k = 44) : cmAt s (k + 1) = (k + 1, (cmAt s k).2 ++ [s.extract (cmAt s k).1 k]) := by rw [cmAt, if_pos h]
theorem cmAt_miss {s : ByteArray} {k : Nat} (h : bt s k ≠ 44) : cmAt s (k + 1) = cmAt s k := by rw [cmAt, if_neg h]
theorem ext_list (s : ByteArray) (a b : Nat) : (s.extract a b).data.toList = (s.data.toList.take b).drop a := by
  rw [Lib.extract_data, List.drop_take]
theorem cmAt_cml (s : ByteArray) : ∀ k, k ≤ s.size → cml [] s.data.toList = (cmAt s k).2.map (·.data.toList) ++ cml (s.extract (cmAt s k).1 k).data.toList (s.data.toList.drop k)
  | 0, _ => by
    have e : (s.extract (cmAt s 0).1 0).data.toList = [] := by rw [ext_list]; simp
    rw [e]; rfl
  | k + 1, h => by
    have ih := cmAt_cml s k (by omega)
    have hk : k < s.data.toList.length := by rw [← ba_size]; omega
    rw [List.drop_eq_getElem_cons hk, cml] at ih
    have hb : (s.data.toList[k]).toNat = bt s k := bt_list s k (by omega)
    have hfr := cmAt_fr s k
    by_cases hc : bt s k = 44
    · have hc2 : s.data.toList[k] = 44 := by
        apply UInt8.toNat_inj.1; rw [hb, hc]; rfl
      rw [if_pos hc2] at ih
      rw [cmAt_hit hc, ih]
      have e : (s.extract (k + 1) (k + 1)).data.toList = [] := by
        rw [ext_list]
        exact List.drop_eq_nil_of_le (by rw [List.length_take]; omega)
      dsimp only
      rw [e, List.map_append, List.append_assoc]
      rfl
    · have hc2 : ¬ s.data.toList[k] = 44 := fun e => hc (by rw [← hb, e]; rfl)
      rw [if_neg hc2] at ih
      rw [cmAt_miss hc, ih]
      congr 2
      rw [ext_list, ext_list, List.take_succ_eq_append_getElem hk, List.drop_append_of_le_length (by rw [List.length_take]; omega)]
theorem cmK_cml (s : ByteArray) : (cmK s).map (·.data.toList) = cml [] s.data.toList := by
  have h := cmAt_cml s s.size (Nat.le_refl _)
  have e : s.data.toList.drop s.size = [] := List.drop_eq_nil_of_le (by rw [← ba_size]; omega)
  rw [e, cml] at h
  rw [h]
  unfold cmK
  rw [List.map_append]
  rfl
theorem map_inj {α β : Type} {f : α → β} (hf : ∀ a b, f a = f b → a = b) : ∀ {l m : List α}, l.map f = m.map f → l = m
  | [], [], _ => rfl
  | [], _ :: _, h => by simp at h
  | _ :: _, [], h => by simp at h
  | a :: l, b :: m, h => by
    rw [List.map_cons, List.map_cons, List.cons.injEq] at h
    rw [hf a b h.1, map_inj hf h.2]
def cm44 : ByteArray := ⟨#[44]⟩
theorem split_cmK (s : ByteArray) : Lib.splitB cm44 0 (Lib.countB s cm44) s = cmK s := by
  refine map_inj (f := fun b : ByteArray => b.data.toList) (fun a b h => ba_ext h) ?_
  rw [cmK_cml, Lib.splitB_data]
  exact splitK_cml _ _ rfl
theorem cmK_len (s : ByteArray) : (cmK s).length ≤ s.size + 1 := by
  unfold cmK
  rw [List.length_append]
  have := cmAt_len s s.size
  simp
  omega
theorem cmAt_mem {s : ByteArray} : ∀ {k : Nat} {x : ByteArray}, x ∈ (cmAt s k).2 → x.size ≤ s.size
  | 0, x, h => by cases h
  | k + 1, x, h => by
    unfold cmAt at h
    split at h
    · rcases List.mem_append.1 h with h | h
      · exact cmAt_mem h
      · simp at h; subst h; rw [ByteArray.size_extract]; omega
    · exact cmAt_mem h
theorem cmK_mem {s x : ByteArray} (h : x ∈ cmK s) : x.size ≤ s.size := by
  unfold cmK at h
  rcases List.mem_append.1 h with h | h
  · exact cmAt_mem h
  · simp at h; subst h; rw [ByteArray.size_extract]; omega
/-- A text without a comma. -/
theorem cml_plain : ∀ (l cur : List UInt8), (∀ c ∈ l, c ≠ 44) → cml cur l = [cur ++ l]
  | [], cur, _ => by simp [cml]
  | c :: l, cur, h => by rw [cml, if_neg (h c (by simp)), cml_plain l _ (fun d hd => h d (by simp [hd]))]; simp
theorem cmK_plain {s : ByteArray} (h : ∀ c ∈ s.data.toList, c ≠ 44) : cmK s = [s] := by
  refine map_inj (f := fun b : ByteArray => b.data.toList) (fun a b h => ba_ext h) ?_
  rw [cmK_cml, cml_plain _ _ h]; rfl
/-! ### The length that parts tell -/
def lnStep (st : Option (Option Int)) (p : ByteArray) : Option (Option Int) :=
  match st with
  | none => none
  | some h => if numE 10 p 2147483647 = 0 ∧ (∀ n, h = some n → numV 10 p 2147483647 = n) then some (some (numV 10 p 2147483647)) else none
def lnAt (L : List ByteArray) (k : Nat) : Option (Option Int) := (L.take k).foldl lnStep (some none)
theorem lnAt_step {L : List ByteArray} {k : Nat} (h : k < L.length) : lnAt L (k + 1) = lnStep (lnAt L k) L[k] := by
  unfold lnAt
  rw [List.take_succ_eq_append_getElem h, List.foldl_append]
  rfl
theorem ln_none : ∀ L : List ByteArray, L.foldl lnStep none = none
  | [] => rfl
  | p :: L => by rw [List.foldl_cons]; exact ln_none L
theorem lnAt_none {L : List ByteArray} {k : Nat} (h : lnAt L k = none) : lnAt L L.length = none := by
  unfold lnAt at *
  rw [List.take_length]
  have e : L = L.take k ++ L.drop k := (List.take_append_drop k L).symm
  conv => lhs; rw [e]
  rw [List.foldl_append, h]
  exact ln_none _
/-- P18.1: (n, has, e). -/
def lnR (L : List ByteArray) : Int × Bool × Int :=
  match lnAt L L.length with
  | none => (0, false, 14)
  | some none => (0, false, 0)
  | some (some n) => (n, true, 0)
def ofS : Option Int → Int × Bool
  | none => (0, false)
  | some n => (n, true)
def lnParts (V : List ByteArray) : List ByteArray := V.flatMap fun v => (cmK v).map trimB
end Go.Proofs.YtkfpioadimkogaaGreatDoor
