/- Tally (layer 49): how rows are ranked, plainly: the stable sort of rising rows, and the document's best of what is left, are one. -/
import Derived.Test.YtocnecbhpofdgaaTlg
import Derived.Test.YtocnecbhpofdgaaTlh
import Derived.Test.YtocnecbhpofdgaaTli
namespace Go.Proofs.Ytocnecbhpofdgaa
open Go.RowKit Go.Shelf Go.Lib Go.Sort
set_option linter.unusedVariables false
set_option linter.unusedSimpArgs false

/-- p stands ahead of q: more often there, or as often and the lesser name. -/
def rkL (p q : Srw) : Bool := decide (q.2 < p.2) || (decide (p.2 = q.2) && bsL p.1 q.1)
theorem rkL_iff (p q : Srw) : rkL p q = true ↔ q.2 < p.2 ∨ (p.2 = q.2 ∧ bsL p.1 q.1 = true) := by unfold rkL; simp
theorem rkL_asym {p q : Srw} (h : rkL p q = true) : ¬ rkL q p = true := by
  rw [rkL_iff] at *
  rintro (h2 | ⟨h2, h3⟩)
  · omega
  · rcases h with h | ⟨h, h4⟩
    · omega
    · rw [bsL_asym h4] at h3; cases h3
theorem rkL_tot {p q : Srw} (h : ¬ rkL p q = true) (hn : q.1 ≠ p.1) : rkL q p = true := by
  rw [rkL_iff] at *
  by_cases h1 : q.2 < p.2
  · exact absurd (.inl h1) h
  · by_cases h2 : p.2 < q.2
    · exact .inl h2
    · refine .inr ⟨by omega, ?_⟩
      cases hb : bsL q.1 p.1
      · cases hc : bsL p.1 q.1
        · exact absurd (bsL_eq hb hc) hn
        · exact absurd (.inr ⟨by omega, hc⟩) h
      · rfl
theorem rkL_tr {p q r : Srw} (h1 : rkL p q = true) (h2 : rkL q r = true) : rkL p r = true := by
  rw [rkL_iff] at *
  rcases h1 with h1 | ⟨h1, k1⟩ <;> rcases h2 with h2 | ⟨h2, k2⟩
  · exact .inl (by omega)
  · exact .inl (by omega)
  · exact .inl (by omega)
  · exact .inr ⟨by omega, (bsL_iff _ _).2 (List.lt_trans ((bsL_iff _ _).1 k1) ((bsL_iff _ _).1 k2))⟩
theorem inS_rk (y : Srw) : ∀ T : List Srw, T.Pairwise (fun p q => rkL p q = true) → (∀ t ∈ T, bsL t.1 y.1 = true) → (inS (ltOf rkC) y T).Pairwise (fun p q => rkL p q = true)
  | [], _, _ => by simp [inS]
  | t :: T, h, hb => by
    rw [List.pairwise_cons] at h
    obtain ⟨h1, h2⟩ := h
    rw [inS]
    split
    · rename_i hl
      rw [rkC_lt, decide_eq_true_eq] at hl
      rw [List.pairwise_cons]
      refine ⟨fun z hz => ?_, List.pairwise_cons.2 ⟨h1, h2⟩⟩
      have h0 : rkL y t = true := (rkL_iff _ _).2 (.inl hl)
      rcases List.mem_cons.1 hz with rfl | hz
      · exact h0
      · exact rkL_tr h0 (h1 z hz)
    · rename_i hl
      rw [rkC_lt, decide_eq_true_eq] at hl
      rw [List.pairwise_cons]
      refine ⟨fun z hz => ?_, inS_rk y T h2 fun t ht => hb t (List.mem_cons_of_mem _ ht)⟩
      rcases List.mem_cons.1 ((inS_perm _ y T).mem_iff.1 hz) with rfl | hz
      · rw [rkL_iff]
        have := hb t (by simp)
        by_cases e : t.2 = z.2
        · exact .inr ⟨e, this⟩
        · exact .inl (by omega)
      · exact h1 z hz
theorem isrt_rk : ∀ X : List Srw, X.Pairwise (fun p q => bsL p.1 q.1 = true) → (isrt (ltOf rkC) X).Pairwise (fun p q => rkL p q = true) := by
  intro X
  refine snoc_ind (P := fun X : List Srw => X.Pairwise (fun p q => bsL p.1 q.1 = true) → (isrt (ltOf rkC) X).Pairwise (fun p q => rkL p q = true)) (fun _ => by simp [isrt_nil]) ?_ X
  intro X y ih h
  rw [List.pairwise_append] at h
  obtain ⟨h1, -, h3⟩ := h
  rw [isrt_snoc]
  exact inS_rk y _ (ih h1) fun t ht => h3 t ((isrt_perm _ X).mem_iff.1 ht) y (by simp)
/-- Rising rows, each name once. -/
theorem SoL.rise {F : ByteArray → Int} {n : Nat} {L : List Rs} (h : SoL F n L) : L.Pairwise (fun p q => bsL p.1 q.1 = true) := by
  obtain ⟨-, h2, h3, -⟩ := h
  rw [List.Nodup, List.pairwise_map] at h2
  refine (h2.and h3).imp fun {p q} hpq => ?_
  obtain ⟨e, hl⟩ := hpq
  cases hb : bsL p.1 q.1
  · have hl2 : bsL q.1 p.1 = false := by
      rw [← cmB_lt]
      exact hl
    exact absurd (bsL_eq hb hl2) e
  · rfl
theorem pw_uniq {α : Type} {R : α → α → Prop} (ha : ∀ p q, R p q → ¬ R q p) : ∀ {l l' : List α}, l.Pairwise R → l'.Pairwise R → (∀ x, x ∈ l ↔ x ∈ l') → l = l'
  | [], [], _, _, _ => rfl
  | [], b :: l', _, _, h => absurd ((h b).2 (by simp)) (by simp)
  | a :: l, [], _, _, h => absurd ((h a).1 (by simp)) (by simp)
  | a :: l, b :: l', h1, h2, h => by
    rw [List.pairwise_cons] at h1 h2
    obtain ⟨a1, a2⟩ := h1
    obtain ⟨b1, b2⟩ := h2
    have e : a = b := by
      have m1 := (h a).1 (by simp)
      have m2 := (h b).2 (by simp)
      rcases List.mem_cons.1 m1 with m1 | m1
      · exact m1
      · rcases List.mem_cons.1 m2 with m2 | m2
        · exact m2.symm
        · exact absurd (b1 a m1) (ha _ _ (a1 b m2))
    subst e
    have := pw_uniq ha a2 b2 fun z => by
      have hz := h z
      have irr : ¬ R a a := fun r => ha a a r r
      constructor
      · intro hm
        rcases List.mem_cons.1 (hz.1 (List.mem_cons_of_mem _ hm)) with e | h'
        · subst e; exact absurd (a1 z hm) irr
        · exact h'
      · intro hm
        rcases List.mem_cons.1 (hz.2 (List.mem_cons_of_mem _ hm)) with e | h'
        · subst e; exact absurd (b1 z hm) irr
        · exact h'
    rw [this]

/-- The document's best of what is left. -/
def stpD (l : List ByteArray) (b : Srw) (x : ByteArray) : Srw := if rkL (x, ctB l x) b = true then (x, ctB l x) else b
def bstD (l : List ByteArray) (k : Nat) : Srw := (l.take k).foldl (stpD l) (ByteArray.empty, 0)
theorem bstD_succ (l : List ByteArray) (k : Nat) (h : k < l.length) : bstD l (k + 1) = stpD l (bstD l k) l[k] := by
  unfold bstD
  rw [List.take_succ_eq_append_getElem h, List.foldl_append]
  rfl
def lefD (l : List ByteArray) (b : ByteArray) : List ByteArray := l.filter fun x => decide (x ≠ b)
def cntD : Nat → List ByteArray → List Srw
  | 0, _ => []
  | n + 1, l => if l.length = 0 then [] else bstD l l.length :: cntD n (lefD l (bstD l l.length).1)
theorem ctB_pos {l : List ByteArray} {x : ByteArray} : 0 < ctB l x ↔ x ∈ l := by
  unfold ctB
  constructor
  · intro h
    have h2 : 0 < (l.filter fun y => decide (y = x)).length := by omega
    obtain ⟨y, hy⟩ := List.exists_mem_of_length_pos h2
    rw [List.mem_filter] at hy
    have : y = x := by simpa using hy.2
    rw [← this]
    exact hy.1
  · intro h
    have : x ∈ l.filter fun y => decide (y = x) := List.mem_filter.2 ⟨h, by simp⟩
    have := List.length_pos_of_mem this
    omega
theorem bstD_ok (l : List ByteArray) : ∀ k, k ≤ l.length → (k = 0 ∧ bstD l k = (ByteArray.empty, 0)) ∨ (bstD l k).1 ∈ l ∧ (bstD l k).2 = ctB l (bstD l k).1 ∧ ∀ x ∈ l.take k, ¬ rkL (x, ctB l x) (bstD l k) = true := by
  intro k
  induction k with
  | zero => intro _; exact .inl ⟨rfl, rfl⟩
  | succ k ih =>
    intro hk
    right
    rw [bstD_succ l k (by omega)]
    have hm : l[k]'(by omega) ∈ l := List.getElem_mem _
    have irr : ∀ p : Srw, ¬ rkL p p = true := fun p h => rkL_asym h h
    rcases ih (by omega) with ⟨rfl, e⟩ | ⟨h1, h2, h3⟩
    · rw [e]
      have hp := (ctB_pos (l := l) (x := l[0]'(by omega))).2 hm
      have : stpD l (ByteArray.empty, 0) (l[0]'(by omega)) = (l[0]'(by omega), ctB l (l[0]'(by omega))) := by
        unfold stpD
        rw [if_pos ((rkL_iff _ _).2 (.inl hp))]
      rw [this]
      refine ⟨hm, rfl, fun x hx => ?_⟩
      rw [List.take_succ_eq_append_getElem (by omega)] at hx
      simp at hx
      subst hx
      exact irr _
    · unfold stpD
      split
      · rename_i hr
        refine ⟨hm, rfl, fun x hx => ?_⟩
        rw [List.take_succ_eq_append_getElem (by omega)] at hx
        rcases List.mem_append.1 hx with hx | hx
        · intro h9
          exact h3 x hx (rkL_tr h9 hr)
        · simp at hx
          subst hx
          exact irr _
      · rename_i hr
        refine ⟨h1, h2, fun x hx => ?_⟩
        rw [List.take_succ_eq_append_getElem (by omega)] at hx
        rcases List.mem_append.1 hx with hx | hx
        · exact h3 x hx
        · simp at hx
          subst hx
          exact hr
theorem lefD_ct (l : List ByteArray) (b x : ByteArray) (h : x ≠ b) : ctB (lefD l b) x = ctB l x := by
  unfold ctB lefD
  rw [List.filter_filter]
  congr 2
  refine List.filter_congr fun y _ => ?_
  by_cases e : y = x
  · subst e; simp [h]
  · simp [e]
theorem lefD_mem (l : List ByteArray) (b x : ByteArray) : x ∈ lefD l b ↔ x ∈ l ∧ x ≠ b := by unfold lefD; simp [List.mem_filter]
theorem lefD_len {l : List ByteArray} {b : ByteArray} (h : b ∈ l) : (lefD l b).length < l.length := by
  have h2 := List.length_filter_lt_length_iff_exists (l := l) (p := fun x => decide (x ≠ b))
  exact h2.2 ⟨b, h, by simp⟩
theorem cntD_ok : ∀ (n : Nat) (l : List ByteArray), l.length ≤ n → (cntD n l).Pairwise (fun p q => rkL p q = true) ∧ (∀ p : Srw, p ∈ cntD n l ↔ p.1 ∈ l ∧ p.2 = ctB l p.1)
  | 0, l, h => by
    have e : l = [] := List.length_eq_zero_iff.1 (by omega)
    subst e
    simp [cntD]
  | n + 1, l, h => by
    rw [cntD]
    split
    · rename_i h0
      have e : l = [] := List.length_eq_zero_iff.1 h0
      subst e
      simp
    · rename_i h0
      rcases bstD_ok l l.length (Nat.le_refl _) with ⟨h9, _⟩ | ⟨h1, h2, h3⟩
      · exact absurd h9 h0
      · rw [List.take_length] at h3
        obtain ⟨i1, i2⟩ := cntD_ok n (lefD l (bstD l l.length).1) (by have := lefD_len h1; omega)
        generalize bstD l l.length = b at *
        refine ⟨?_, fun p => ?_⟩
        · rw [List.pairwise_cons]
          refine ⟨fun q hq => ?_, i1⟩
          obtain ⟨q1, q2⟩ := (i2 q).1 hq
          rw [lefD_mem] at q1
          rw [lefD_ct _ _ _ q1.2] at q2
          have hn := h3 q.1 q1.1
          rw [← q2] at hn
          exact rkL_tot hn (fun e => q1.2 e.symm)
        · rw [List.mem_cons, i2 p, lefD_mem]
          constructor
          · rintro (rfl | ⟨⟨p1, p2⟩, p3⟩)
            · exact ⟨h1, h2⟩
            · rw [lefD_ct _ _ _ p2] at p3
              exact ⟨p1, p3⟩
          · rintro ⟨p1, p2⟩
            by_cases e : p.1 = b.1
            · left
              obtain ⟨x, n⟩ := p
              obtain ⟨y, m⟩ := b
              dsimp only at *
              subst e
              rw [p2, h2]
            · right
              exact ⟨⟨p1, e⟩, by rw [lefD_ct _ _ _ e]; exact p2⟩
/-- The ranked rows of a count. -/
def rkD (K : List ByteArray) : List Srw := cntD K.length K
theorem rkD_of {K : List ByteArray} {n : Nat} {L : List Rs} (hK : ∀ x ∈ K, x.size ≤ maxLen) (h : SoL (ctB K) n L) : isrt (ltOf rkC) L = rkD K := by
  obtain ⟨c1, c2⟩ := cntD_ok K.length K (Nat.le_refl _)
  refine pw_uniq (R := fun p q => rkL p q = true) (fun p q h => rkL_asym h) (isrt_rk L h.rise) c1 fun p => ?_
  rw [(isrt_perm _ L).mem_iff]
  show p ∈ L ↔ p ∈ rkD K
  unfold rkD
  rw [c2 p]
  obtain ⟨-, s2, s3, s4, s5⟩ := h
  constructor
  · intro hp
    obtain ⟨q1, q2, q3⟩ := s4 p hp
    rw [← q2] at q3
    exact ⟨ctB_pos.1 q3, q2.symm⟩
  · rintro ⟨p1, p2⟩
    have := s5 p.1 (hK _ p1) (ctB_pos.2 p1)
    obtain ⟨q, hq, e⟩ := List.mem_map.1 this
    obtain ⟨q1, q2, q3⟩ := s4 q hq
    have : q = p := by
      obtain ⟨x, n⟩ := p
      obtain ⟨y, m⟩ := q
      dsimp only at *
      subst e
      rw [← q2, p2]
    rw [← this]
    exact hq
theorem rkD_len (K : List ByteArray) : (rkD K).length ≤ K.length := by
  unfold rkD
  suffices h : ∀ n (l : List ByteArray), (cntD n l).length ≤ n from h _ _
  intro n
  induction n with
  | zero => intro l; simp [cntD]
  | succ n ih =>
    intro l
    rw [cntD]
    split
    · simp
    · have := ih (lefD l (bstD l l.length).1)
      simp; omega
end Go.Proofs.Ytocnecbhpofdgaa
