/- Layer 1: the walk of the law OctetKeeps. -/
import Derived.Test.YtahehpgnemanmaaLaw1
import Derived.Deep.DeepCutAuto
namespace Go.Proofs.Ytahehpgnemanmaa
open Go.RowKit
set_option linter.unusedVariables false
set_option linter.unusedSimpArgs false

theorem lowN_lowN (n : Nat) : lowN (lowN n) = lowN n := by
  by_cases h : 65 ≤ n ∧ n ≤ 90
  · have e : lowN n = n + 32 := by unfold lowN; rw [if_pos h]
    rw [e, lowN_out (by omega)]
  · have e : lowN n = n := by unfold lowN; rw [if_neg h]
    rw [e, e]
theorem lowC_lowC (c : UInt8) : lowC (lowC c) = lowC c := by
  apply UInt8.toNat_inj.1
  rw [lowC_toNat, lowC_toNat, lowN_lowN]
theorem lowB_lowB (s : ByteArray) : lowB (lowB s) = lowB s := by
  unfold lowB
  congr 2
  simp [lowL, lowC_lowC]
theorem lowB_size (s : ByteArray) : (lowB s).size = s.size := by rw [ba_size, ba_size]; simp [lowB, lowL]
theorem trimB_trimB (s : ByteArray) : trimB (trimB s) = trimB s := by
  unfold trimB
  congr 2
  simp [trimL_trimL]
theorem trimB_size (s : ByteArray) : (trimB s).size ≤ s.size := by
  rw [ba_size, ba_size]
  simp only [trimB]
  exact trimL_length _
theorem trimB_around (s : ByteArray) : trimB (⟨#[32, 9]⟩ ++ s ++ ⟨#[9, 32]⟩) = trimB s := by
  unfold trimB
  congr 2
  have := trimL_around s.data.toList [32, 9] [9, 32] (by decide) (by decide)
  rw [← this]
  simp
theorem foldB_low (a : ByteArray) : foldB a (lowB a) = true := by simp [foldB, lowB_lowB]
theorem foldB_comm (a b : ByteArray) : foldB a b = foldB b a := by
  unfold foldB
  rw [Bool.eq_iff_iff]
  simp
  exact ⟨Eq.symm, Eq.symm⟩
theorem foldB_trans {a b c : ByteArray} (h1 : foldB a b = true) (h2 : foldB b c = true) : foldB a c = true := by
  simp [foldB] at *
  rw [h1, h2]
theorem trimB_token {a : ByteArray} (h : tokenB a = true) : trimB a = a ∧ visibleB a = true ∧ allB valueB a = true := by
  simp only [tokenB, Bool.and_eq_true] at h
  obtain ⟨h0, h⟩ := h
  have hall : ∀ c ∈ a.data.toList, tcharB c.toNat = true := by
    unfold allB at h
    rw [List.all_eq_true] at h
    exact h
  have hlo : ∀ c ∈ a.data.toList, 33 ≤ c.toNat ∧ c.toNat ≤ 126 := fun c hc => tchar_low _ c.toNat_lt (hall c hc)
  refine ⟨?_, ?_, ?_⟩
  · refine (ba_eq a _ ?_).symm
    have ht : Tidy a.data.toList := by
      rcases List.eq_nil_or_concat a.data.toList with e | ⟨r, c, e⟩
      · exact .inl e
      · right
        rw [List.concat_eq_append] at e
        refine ⟨?_, r, c, e, ?_⟩
        · cases hx : a.data.toList with
          | nil => rw [hx] at e; simp at e
          | cons d m => exact ⟨d, m, rfl, by have := hlo d (by rw [hx]; simp); simp [blankC, blankN]; omega⟩
        · have := hlo c (by rw [e]; simp); simp [blankC, blankN]; omega
    exact (trimL_tidy _ ht).symm
  · simp only [visibleB, h0, Bool.true_and, allB, List.all_eq_true]
    intro c hc
    have := hlo c hc
    simp [visB, this]
  · simp only [allB, List.all_eq_true]
    intro c hc
    have := hlo c hc
    simp [valueB]; omega
theorem trimB_ends (s : ByteArray) (h : 0 < (trimB s).size) : blankN (bt (trimB s) 0) = false ∧ blankN (bt (trimB s) ((trimB s).size - 1)) = false := by
  obtain ⟨p, q, e, hp, hq, ht⟩ := trimL_part s.data.toList
  have hd : (trimB s).data.toList = trimL s.data.toList := by simp [trimB]
  rcases ht with ht | ⟨⟨c, r, h1, h2⟩, r', c', h3, h4⟩
  · rw [ba_len hd, ht] at h; simp at h
  · exact ⟨by rw [bt_cons (hd.trans h1)]; exact h2, by rw [bt_snoc (hd.trans h3)]; exact h4⟩

end Go.Proofs.Ytahehpgnemanmaa
