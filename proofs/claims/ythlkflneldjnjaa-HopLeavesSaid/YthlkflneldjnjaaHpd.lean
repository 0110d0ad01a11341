/- Fields of one connection (layer 29): what is left stays; plain functions. -/
import Derived.Test.YthlkflneldjnjaaHpc
namespace Go.Proofs.Ythlkflneldjnjaa
open Go.RowKit
set_option linter.unusedVariables false
set_option linter.unusedSimpArgs false

theorem fold_low {a b : ByteArray} (h : foldB a b = true) : lowB a = lowB b := ba_tl.1 (eq_of_beq h)
theorem low_fold {a b : ByteArray} (h : lowB a = lowB b) : foldB a b = true := by unfold foldB; rw [h]; simp
theorem hHas_cong {a b : ByteArray} (h : foldB a b = true) (ns : List ByteArray) : hHas a ns = hHas b ns := by
  have e := fold_low h
  unfold hHas foldB
  rw [e]
theorem hHas_app (x : ByteArray) (a b : List ByteArray) : hHas x (a ++ b) = (hHas x a || hHas x b) := by unfold hHas; rw [List.any_append]
theorem hWo_mem {l : List Fld} {N : List ByteArray} {p : Fld} (h : p ∈ hWo l N) : p ∈ l ∧ hHas p.1 N = false := by
  unfold hWo at h
  rw [List.mem_filter] at h
  exact ⟨h.1, by simpa using h.2⟩
theorem hWo_split (l : List Fld) (N : List ByteArray) (j : Nat) (h : j < l.length) : hWo l N = hWo (l.take j) N ++ ((if hHas l[j].1 N = true then [] else [l[j]]) ++ hWo (l.drop (j + 1)) N) := by
  have e : l = l.take j ++ (l[j] :: l.drop (j + 1)) := by rw [← List.drop_eq_getElem_cons h, List.take_append_drop]
  have e2 : hWo (l[j] :: l.drop (j + 1)) N = (if hHas l[j].1 N = true then [] else [l[j]]) ++ hWo (l.drop (j + 1)) N := by
    unfold hWo
    rw [List.filter_cons]
    cases hf : hHas l[j].1 N <;> simp
  calc hWo l N = hWo (l.take j ++ (l[j] :: l.drop (j + 1))) N := by rw [← e]
    _ = hWo (l.take j) N ++ hWo (l[j] :: l.drop (j + 1)) N := by unfold hWo; rw [List.filter_append]
    _ = _ := by rw [e2]
def cntH (l : List Fld) (N : List ByteArray) (j : Nat) : Nat := (hWo (l.take j) N).length
theorem cntH_le (l : List Fld) (N : List ByteArray) (j : Nat) : cntH l N j ≤ (hWo l N).length := by
  unfold cntH
  have e : hWo l N = hWo (l.take j) N ++ hWo (l.drop j) N := by
    unfold hWo
    rw [← List.filter_append, List.take_append_drop]
  rw [e, List.length_append]
  omega
theorem cntH_all {l : List Fld} {N : List ByteArray} {j : Nat} (h : l.length ≤ j) : cntH l N j = (hWo l N).length := by unfold cntH; rw [List.take_of_length_le h]
theorem cntH_yes {l : List Fld} {N : List ByteArray} {j : Nat} (h : j < l.length) (hf : hHas l[j].1 N = false) : cntH l N (j + 1) = cntH l N j + 1 := by
  unfold cntH
  rw [hWo_take h, hf]
  simp
theorem cntH_no {l : List Fld} {N : List ByteArray} {j : Nat} (h : j < l.length) (hf : hHas l[j].1 N = true) : cntH l N (j + 1) = cntH l N j := by
  unfold cntH
  rw [hWo_take h, hf]
  simp
theorem cntH_at {l : List Fld} {N : List ByteArray} {j : Nat} (h : j < l.length) (hf : hHas l[j].1 N = false) : ∃ hk : cntH l N j < (hWo l N).length, (hWo l N)[cntH l N j] = l[j] := by
  have e := hWo_split l N j h
  rw [hf] at e
  have hl : cntH l N j < (hWo l N).length := by
    rw [e]
    unfold cntH
    simp
  refine ⟨hl, ?_⟩
  have e2 : (hWo l N)[cntH l N j]? = some l[j] := by
    rw [e]
    unfold cntH
    rw [List.getElem?_append_right (Nat.le_refl _), Nat.sub_self]
    rfl
  rw [List.getElem?_eq_getElem hl] at e2
  exact Option.some.inj e2
theorem miss_all {l : List Fld} {N : List ByteArray} {x : ByteArray} (hf : hHas x N = true) : (hAll (hWo l N) x).length = 0 := by
  unfold hAll
  rw [List.length_map, List.length_eq_zero_iff, List.filter_eq_nil_iff]
  intro p hp h
  have h1 := (hWo_mem hp).2
  rw [hHas_cong h, hf] at h1
  cases h1
theorem hop_own (x : ByteArray) (v : ByteArray) (h : hHas x (hopN v) = false) : hHas x hopOwn = false := by
  unfold hopN at h
  rw [hHas_app, Bool.or_eq_false_iff] at h
  exact h.1
theorem con_gone (l : List Fld) : conV (hopS l) = ⟨#[]⟩ := by
  unfold conV
  have h : hAll (hopS l) nmCon = [] := by
    rw [← List.length_eq_zero_iff]
    refine miss_all ?_
    unfold hopN
    rw [hHas_app, show hHas nmCon hopOwn = true from by decide +kernel]
    rfl
  rw [h]
  rfl
theorem hopN_nil : hopN ⟨#[]⟩ = hopOwn := by decide +kernel
theorem hop_twice (l : List Fld) : hopS (hopS l) = hopS l := by
  have h1 : hopS (hopS l) = hWo (hopS l) hopOwn := by
    show hWo (hopS l) (hopN (conV (hopS l))) = _
    rw [con_gone, hopN_nil]
  rw [h1]
  unfold hWo
  rw [List.filter_eq_self]
  intro p hp
  have h2 := (hWo_mem (l := l) hp).2
  rw [hop_own _ _ h2]
  rfl
def hMay (x : ByteArray) : Bool := foldB x ⟨#[72, 111, 115, 116]⟩ || (foldB x ⟨#[86, 105, 97]⟩ || foldB x ⟨#[67, 111, 110, 116, 101, 110, 116, 45, 76, 101, 110, 103, 116, 104]⟩)
theorem hop_named {x v : ByteArray} (h : hHas x (hopN v) = false) (hi : inW (lowB x) (conW v) = true) : hMay x = true := by
  unfold inW at hi
  rw [List.any_eq_true] at hi
  obtain ⟨y, hy, he⟩ := hi
  have hye : y = lowB x := ba_tl.1 (eq_of_beq he)
  have hxy : foldB x y = true := low_fold (by rw [hye, lowB_lowB])
  cases hn : noH y
  · unfold hopN at h
    rw [hHas_app, Bool.or_eq_false_iff] at h
    have h2 := h.2
    unfold hHas at h2
    rw [List.any_eq_false] at h2
    exact absurd hxy (h2 y (List.mem_filter.2 ⟨hy, by rw [hn]; rfl⟩))
  · unfold noH hopNo at hn
    rw [List.any_cons, List.any_cons, List.any_cons, List.any_nil, Bool.or_false] at hn
    have key : ∀ n, foldB n y = true → foldB x n = true := fun n h => low_fold ((fold_low hxy).trans (fold_low h).symm)
    unfold hMay
    rw [Bool.or_eq_true, Bool.or_eq_true] at hn ⊢
    rcases hn with hn | hn | hn
    · exact .inl (key _ hn)
    · exact .inr (.inr (key _ hn))
    · exact .inr (.inl (key _ hn))
theorem hop_te {x v : ByteArray} (h : hHas x (hopN v) = false) : foldB x ⟨#[116, 101]⟩ = false ∧ foldB x ⟨#[117, 112, 103, 114, 97, 100, 101]⟩ = false := by
  have h0 := hop_own _ _ h
  unfold hHas at h0
  rw [List.any_eq_false] at h0
  have h1 := h0 ⟨#[84, 69]⟩ (by simp [hopOwn])
  have h2 := h0 ⟨#[85, 112, 103, 114, 97, 100, 101]⟩ (by simp [hopOwn])
  have e1 : lowB ⟨#[84, 69]⟩ = lowB ⟨#[116, 101]⟩ := by decide +kernel
  have e2 : lowB ⟨#[85, 112, 103, 114, 97, 100, 101]⟩ = lowB ⟨#[117, 112, 103, 114, 97, 100, 101]⟩ := by decide +kernel
  unfold foldB at h1 h2 ⊢
  rw [e1] at h1
  rw [e2] at h2
  exact ⟨by simpa using h1, by simpa using h2⟩
def bHost : ByteArray := ⟨#[72, 111, 115, 116]⟩
theorem host_stays (v : ByteArray) : hHas bHost (hopN v) = false := by
  unfold hopN
  rw [hHas_app, show hHas bHost hopOwn = false from by decide +kernel, Bool.false_or]
  unfold hHas
  rw [List.any_eq_false]
  intro n hn h
  rw [List.mem_filter] at hn
  have h2 : noH n = false := by simpa using hn.2
  unfold noH hopNo at h2
  rw [List.any_cons, Bool.or_eq_false_iff] at h2
  have h3 : foldB bHost n = false := h2.1
  rw [h3] at h
  cases h
theorem host_count (l : List Fld) : (hAll (hopS l) bHost).length = (hAll l bHost).length := by
  unfold hAll hopS hWo
  rw [List.length_map, List.length_map, List.filter_filter]
  congr 1
  refine List.filter_congr fun p hp => ?_
  cases hf : foldB p.1 bHost
  · rfl
  · rw [hHas_cong hf, host_stays]
    rfl
end Go.Proofs.Ythlkflneldjnjaa
