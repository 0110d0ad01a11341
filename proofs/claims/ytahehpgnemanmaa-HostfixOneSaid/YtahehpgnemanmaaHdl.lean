/- What setting and leaving out keep (layer 10), over lists. -/
import Derived.Test.YtahehpgnemanmaaHdi
import Derived.Test.YtahehpgnemanmaaHde
namespace Go.Proofs.Ytahehpgnemanmaa
open Go.RowKit
set_option linter.unusedVariables false
set_option linter.unusedSimpArgs false

theorem hAll_snoc (s : List Fld) (p : Fld) (nm : ByteArray) : hAll (s ++ [p]) nm = hAll s nm ++ (if foldB p.1 nm = true then [p.2] else []) := by
  unfold hAll
  rw [List.filter_append, List.map_append]
  cases hf : foldB p.1 nm <;> simp [hf]
theorem hAll_cons (p : Fld) (r : List Fld) (nm : ByteArray) : hAll (p :: r) nm = (if foldB p.1 nm = true then [p.2] else []) ++ hAll r nm := by
  unfold hAll
  cases hf : foldB p.1 nm <;> simp [hf]
theorem foldB_me (a : ByteArray) : foldB a a = true := by simp [foldB]
theorem foldB_no {a b c : ByteArray} (h1 : foldB a b = true) (h2 : foldB c b = false) : foldB a c = false := by
  simp [foldB] at h1 h2 ⊢
  rw [h1]
  exact fun e => h2 e.symm
theorem foldB_sym {a b : ByteArray} (h : foldB a b = false) : foldB b a = false := by
  simp [foldB] at h ⊢
  exact fun e => h e.symm
theorem setGo_own (nm y : ByteArray) : ∀ (l s : List Fld) (b : Bool), hAll s nm = (if b = true then [y] else []) → hAll (l.foldl (setStep nm y) (s, b)).1 nm = (if (l.foldl (setStep nm y) (s, b)).2 = true then [y] else [])
  | [], s, b, h => h
  | p :: r, s, b, h => by
    rw [List.foldl_cons]
    obtain ⟨x, z⟩ := p
    cases hf : foldB x nm
    · rw [step_no hf]
      exact setGo_own nm y r _ _ (by rw [hAll_snoc, h]; simp [hf])
    · cases b
      · rw [step_new hf]
        exact setGo_own nm y r _ _ (by rw [hAll_snoc, h]; simp [hf])
      · rw [step_had hf]
        exact setGo_own nm y r _ _ h
theorem setGo_none (nm y : ByteArray) : ∀ (l s : List Fld) (b : Bool), (l.foldl (setStep nm y) (s, b)).2 = false → b = false ∧ hAll l nm = []
  | [], s, b, h => ⟨h, rfl⟩
  | p :: r, s, b, h => by
    rw [List.foldl_cons] at h
    obtain ⟨x, z⟩ := p
    cases hf : foldB x nm
    · rw [step_no hf] at h
      have := setGo_none nm y r _ _ h
      exact ⟨this.1, by rw [hAll_cons, this.2]; simp [hf]⟩
    · cases b
      · rw [step_new hf] at h
        exact absurd (setGo_none nm y r _ _ h).1 (by simp)
      · rw [step_had hf] at h
        exact absurd (setGo_none nm y r _ _ h).1 (by simp)
theorem setGo_other (nm y o : ByteArray) (ho : foldB o nm = false) : ∀ (l s : List Fld) (b : Bool), hAll (l.foldl (setStep nm y) (s, b)).1 o = hAll s o ++ hAll l o
  | [], s, b => by simp [hAll]
  | p :: r, s, b => by
    rw [List.foldl_cons]
    obtain ⟨x, z⟩ := p
    cases hf : foldB x nm
    · rw [step_no hf, setGo_other nm y o ho r, hAll_snoc, hAll_cons, List.append_assoc]
    · have hx := foldB_no hf ho
      cases b
      · rw [step_new hf, setGo_other nm y o ho r, hAll_snoc, hAll_cons]; simp [hx]
      · rw [step_had hf, setGo_other nm y o ho r, hAll_cons]; simp [hx]
theorem hSet_own (l : List Fld) (nm y : ByteArray) : hAll (hSet l nm y) nm = [y] := by
  have h := setGo_own nm y l [] false rfl
  unfold hSet
  cases hb : (setL l nm y).2
  · have h2 := (setGo_none nm y l [] false hb).2
    simp only [Bool.false_eq_true, if_false]
    rw [hAll_snoc, h2]
    simp [foldB_me]
  · simp only [if_true]
    have : (l.foldl (setStep nm y) ([], false)).2 = true := hb
    rw [this] at h
    exact h
theorem hSet_other (l : List Fld) (nm y o : ByteArray) (ho : foldB o nm = false) : hAll (hSet l nm y) o = hAll l o := by
  have h := setGo_other nm y o ho l [] false
  unfold hSet
  cases hb : (setL l nm y).2
  · simp only [Bool.false_eq_true, if_false]
    rw [hAll_snoc]
    simp [foldB_sym ho]
  · simp only [if_true]
    exact h
theorem hWo_own (nm : ByteArray) : ∀ l : List Fld, hAll (hWo l [nm]) nm = []
  | [] => rfl
  | p :: r => by
    have h := hWo_own nm r
    cases hf : foldB p.1 nm
    · have : hWo (p :: r) [nm] = p :: hWo r [nm] := by simp [hWo, hHas, hf]
      rw [this, hAll_cons, h]; simp [hf]
    · have : hWo (p :: r) [nm] = hWo r [nm] := by simp [hWo, hHas, hf]
      rw [this, h]
theorem hWo_other (nm o : ByteArray) (ho : foldB o nm = false) : ∀ l : List Fld, hAll (hWo l [nm]) o = hAll l o
  | [] => rfl
  | p :: r => by
    have h := hWo_other nm o ho r
    cases hf : foldB p.1 nm
    · have : hWo (p :: r) [nm] = p :: hWo r [nm] := by simp [hWo, hHas, hf]
      rw [this, hAll_cons, hAll_cons, h]
    · have : hWo (p :: r) [nm] = hWo r [nm] := by simp [hWo, hHas, hf]
      rw [this, h, hAll_cons]; simp [foldB_no hf ho]
end Go.Proofs.Ytahehpgnemanmaa
