/- Tally (layer 49): whom a range over its map has met (bin/mktle.py). -/
import Derived.Test.YtocnecbhpofdgaaTld
namespace Go.Proofs.Ytocnecbhpofdgaa
open Go.RowKit
set_option linter.unusedVariables false
set_option linter.unusedSimpArgs false

theorem ba_ext_iffT {x y : ByteArray} : (x.data.toList = y.data.toList) ↔ x = y := ⟨ba_ext, fun h => by rw [h]⟩
/-- Whom the range has met, of those that are counted. -/
structure Mts (F : ByteArray → Int) (left : Lit → Bool) (L : List Rs) : Prop where
  nd : (L.map (·.1)).Nodup
  ok : ∀ p ∈ L, (p.1.size ≤ maxLen) ∧ F p.1 = p.2 ∧ 0 < p.2 ∧ left (.string p.1.data.toList) = false
  all : ∀ x : ByteArray, x.size ≤ maxLen → 0 < F x → left (.string x.data.toList) = false → x ∈ L.map (·.1)
theorem Mts.start {D : DataW Unit} {F : ByteArray → Int} (h : FTs D F) : Mts F (Maps.has D) [] :=
  ⟨List.nodup_nil, (by simp), fun x hw hp hl => (by
    have := h x hw
    rw [Maps.atKey_of_not_has hl] at this
    injection this with this
    injection this with _ this
    omega)⟩
theorem Mts.val {D : DataW Unit} {F : ByteArray → Int} (hf : FTs D F) {x : ByteArray} {v : Int} (hw : x.size ≤ maxLen) (hat : ∀ zd, D.atKey (.string x.data.toList) zd = .lit (.int .i64 v)) : F x = v := by
  have := hf x hw
  rw [hat] at this
  injection this with this
  injection this with _ this
  exact this.symm
theorem sameKeys (x y : ByteArray) : (.string y.data.toList : Lit).sameKey (.string x.data.toList) = decide (y = x) := by
  by_cases e : y = x
  · subst e; simp [Lit.sameKey]
  · have := lits_ne e
    simp [Lit.sameKey, e]
    exact fun h => e (ByteArray.ext h)
theorem Mts.strike {F : ByteArray → Int} {left : Lit → Bool} {L : List Rs} (h : Mts F left L) {x : ByteArray} {v : Int} (hw : x.size ≤ maxLen) (hl : left (.string x.data.toList) = true) (hF : F x = v) :
    Mts F (fun z => left z && !z.sameKey (.string x.data.toList)) (if 0 < v then L ++ [(x, v)] else L) := by
  have hn : x ∉ L.map (·.1) := fun hx => by
    obtain ⟨p, hp, rfl⟩ := List.mem_map.1 hx
    have := (h.ok p hp).2.2.2
    rw [hl] at this
    cases this
  refine ⟨?_, ?_, ?_⟩
  · split
    · rw [List.map_append]
      exact List.nodup_append.2 ⟨h.nd, by simp, fun a ha b hb => by simp at hb; subst hb; exact fun e => hn (e ▸ ha)⟩
    · exact h.nd
  · intro p hp
    have hold : p ∈ L → (p.1.size ≤ maxLen) ∧ F p.1 = p.2 ∧ 0 < p.2 ∧ (left (.string p.1.data.toList) && !(.string p.1.data.toList : Lit).sameKey (.string x.data.toList)) = false := fun hp => by
      obtain ⟨h1, h2, h3, h4⟩ := h.ok p hp
      exact ⟨h1, h2, h3, by rw [h4]; rfl⟩
    split at hp
    · rename_i hv
      rcases List.mem_append.1 hp with h9 | h9
      · exact hold h9
      · simp at h9
        subst h9
        refine ⟨hw, hF, hv, ?_⟩
        show (left _ && !_) = false
        rw [sameKeys]
        simp
    · exact hold hp
  · intro y hy hp hlf
    by_cases e : y = x
    · subst e
      rw [if_pos (by omega)]
      simp
    · have h8 : left (.string y.data.toList) = false := by
        have h9 : (left (.string y.data.toList) && !(.string y.data.toList : Lit).sameKey (.string x.data.toList)) = false := hlf
        rw [sameKeys, decide_eq_false e] at h9
        simpa using h9
      have := h.all y hy hp h8
      split
      · rw [List.map_append]; exact List.mem_append_left _ this
      · exact this
/-- Whom the range has met, of those that are counted. -/
structure Mti (F : Int → Int) (left : Lit → Bool) (L : List Ri) : Prop where
  nd : (L.map (·.1)).Nodup
  ok : ∀ p ∈ L, ((Lit.int .i64 p.1).wf = true) ∧ F p.1 = p.2 ∧ 0 < p.2 ∧ left (.int .i64 p.1) = false
  all : ∀ x : Int, (Lit.int .i64 x).wf = true → 0 < F x → left (.int .i64 x) = false → x ∈ L.map (·.1)
theorem Mti.start {D : DataW Unit} {F : Int → Int} (h : FTi D F) : Mti F (Maps.has D) [] :=
  ⟨List.nodup_nil, (by simp), fun x hw hp hl => (by
    have := h x hw
    rw [Maps.atKey_of_not_has hl] at this
    injection this with this
    injection this with _ this
    omega)⟩
theorem Mti.val {D : DataW Unit} {F : Int → Int} (hf : FTi D F) {x : Int} {v : Int} (hw : (Lit.int .i64 x).wf = true) (hat : ∀ zd, D.atKey (.int .i64 x) zd = .lit (.int .i64 v)) : F x = v := by
  have := hf x hw
  rw [hat] at this
  injection this with this
  injection this with _ this
  exact this.symm
theorem sameKeyi (x y : Int) : (.int .i64 y : Lit).sameKey (.int .i64 x) = decide (y = x) := by
  by_cases e : y = x
  · subst e; simp [Lit.sameKey]
  · have := liti_ne e
    simp [Lit.sameKey, e]

theorem Mti.strike {F : Int → Int} {left : Lit → Bool} {L : List Ri} (h : Mti F left L) {x : Int} {v : Int} (hw : (Lit.int .i64 x).wf = true) (hl : left (.int .i64 x) = true) (hF : F x = v) :
    Mti F (fun z => left z && !z.sameKey (.int .i64 x)) (if 0 < v then L ++ [(x, v)] else L) := by
  have hn : x ∉ L.map (·.1) := fun hx => by
    obtain ⟨p, hp, rfl⟩ := List.mem_map.1 hx
    have := (h.ok p hp).2.2.2
    rw [hl] at this
    cases this
  refine ⟨?_, ?_, ?_⟩
  · split
    · rw [List.map_append]
      exact List.nodup_append.2 ⟨h.nd, by simp, fun a ha b hb => by simp at hb; subst hb; exact fun e => hn (e ▸ ha)⟩
    · exact h.nd
  · intro p hp
    have hold : p ∈ L → ((Lit.int .i64 p.1).wf = true) ∧ F p.1 = p.2 ∧ 0 < p.2 ∧ (left (.int .i64 p.1) && !(.int .i64 p.1 : Lit).sameKey (.int .i64 x)) = false := fun hp => by
      obtain ⟨h1, h2, h3, h4⟩ := h.ok p hp
      exact ⟨h1, h2, h3, by rw [h4]; rfl⟩
    split at hp
    · rename_i hv
      rcases List.mem_append.1 hp with h9 | h9
      · exact hold h9
      · simp at h9
        subst h9
        refine ⟨hw, hF, hv, ?_⟩
        show (left _ && !_) = false
        rw [sameKeyi]
        simp
    · exact hold hp
  · intro y hy hp hlf
    by_cases e : y = x
    · subst e
      rw [if_pos (by omega)]
      simp
    · have h8 : left (.int .i64 y) = false := by
        have h9 : (left (.int .i64 y) && !(.int .i64 y : Lit).sameKey (.int .i64 x)) = false := hlf
        rw [sameKeyi, decide_eq_false e] at h9
        simpa using h9
      have := h.all y hy hp h8
      split
      · rw [List.map_append]; exact List.mem_append_left _ this
      · exact this
end Go.Proofs.Ytocnecbhpofdgaa
