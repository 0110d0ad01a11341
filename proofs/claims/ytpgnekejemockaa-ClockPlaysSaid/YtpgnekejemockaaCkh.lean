/- Who is due (layer 41): plain facts: the document's Due is the sorted list of who is due, and the rows of all others; what is collected of a map. -/
import Derived.Test.YtpgnekejemockaaCke
import Derived.Test.YtpgnekejemockaaCkg
namespace Go.Proofs.Ytpgnekejemockaa
open Go.RowKit Go.Shelf Go.Lib Go.Sort
set_option linter.unusedVariables false
set_option linter.unusedSimpArgs false

theorem ltW_irr (F : Int → Option Int) (x : Int) : ¬ ltW F x x := by unfold ltW; omega
theorem ltW_asy {F : Int → Option Int} {x y : Int} (h1 : ltW F x y) (h2 : ltW F y x) : False := by unfold ltW at *; omega
/-- Two rows in one strict order with the same members are one. -/
theorem ltW_uniq {F : Int → Option Int} : ∀ {l l' : List Int}, l.Pairwise (ltW F) → l'.Pairwise (ltW F) → (∀ x, x ∈ l ↔ x ∈ l') → l = l'
  | [], [], _, _, _ => rfl
  | [], y :: l', _, _, h => by have := (h y).2 (List.mem_cons_self ..); cases this
  | x :: l, [], _, _, h => by have := (h x).1 (List.mem_cons_self ..); cases this
  | x :: l, y :: l', h1, h2, h => by
    obtain ⟨a1, a2⟩ := List.pairwise_cons.1 h1
    obtain ⟨b1, b2⟩ := List.pairwise_cons.1 h2
    have exy : x = y := by
      rcases List.mem_cons.1 ((h x).1 (List.mem_cons_self ..)) with e | hx
      · exact e
      · rcases List.mem_cons.1 ((h y).2 (List.mem_cons_self ..)) with e | hy
        · exact e.symm
        · exact (ltW_asy (a1 y hy) (b1 x hx)).elim
    subst exy
    congr 1
    refine ltW_uniq a2 b2 fun z => ?_
    have hz := h z
    simp only [List.mem_cons] at hz
    constructor
    · intro hm
      rcases hz.1 (Or.inr hm) with e | h9
      · subst e; exact (ltW_irr F _ (a1 _ hm)).elim
      · exact h9
    · intro hm
      rcases hz.2 (Or.inr hm) with e | h9
      · subst e; exact (ltW_irr F _ (b1 _ hm)).elim
      · exact h9
/-- Rows whose numbers stand once each. -/
def Once (X : List Rw) : Prop := X.Pairwise (fun p q => p.1 ≠ q.1)
theorem once_wth {X : List Rw} (h : Once X) (id : Int) : Once (wth X id) := List.Pairwise.filter _ h
theorem mem_wth {X : List Rw} {id : Int} {p : Rw} : p ∈ wth X id ↔ p ∈ X ∧ p.1 ≠ id := by simp [wth, List.mem_filter]
theorem fnd_of {X : List Rw} (h : Once X) {p : Rw} (hp : p ∈ X) : fnd X p.1 = some p.2 := by
  induction X with
  | nil => cases hp
  | cons q X ih =>
    obtain ⟨h1, h2⟩ := List.pairwise_cons.1 h
    unfold fnd
    rcases List.mem_cons.1 hp with rfl | hp
    · rw [if_pos rfl]
    · rw [if_neg (h1 p hp)]
      exact ih h2 hp
theorem fnd_none {X : List Rw} {id : Int} (h : ∀ p ∈ X, p.1 ≠ id) : fnd X id = none := by
  induction X with
  | nil => rfl
  | cons q X ih =>
    unfold fnd
    rw [if_neg (h q (List.mem_cons_self ..))]
    exact ih fun p hp => h p (List.mem_cons_of_mem _ hp)
theorem fnd_wth (X : List Rw) (id k : Int) : fnd (wth X id) k = if k = id then none else fnd X k := by
  induction X with
  | nil => unfold wth; simp [fnd]
  | cons q X ih =>
    unfold wth at ih ⊢
    by_cases e : q.1 = id
    · rw [List.filter_cons_of_neg (by simp [e]), ih]
      by_cases hk : k = id
      · rw [if_pos hk, if_pos hk]
      · rw [if_neg hk, if_neg hk]
        conv => rhs; unfold fnd
        rw [if_neg (fun h => hk (h.symm.trans e))]
    · rw [List.filter_cons_of_pos (by simp [e])]
      unfold fnd
      rw [ih]
      by_cases hk : k = id
      · subst hk
        simp [e]
      · simp [hk]
theorem fnd_app (X : List Rw) (id v k : Int) (h : ∀ p ∈ X, p.1 ≠ id) : fnd (X ++ [(id, v)]) k = setF (fnd X) id v k := by
  unfold setF
  induction X with
  | nil =>
    show (if id = k then some v else none) = _
    by_cases e : k = id
    · subst e; simp
    · rw [if_neg (fun h => e h.symm), if_neg e]; rfl
  | cons q X ih =>
    have ih := ih fun p hp => h p (List.mem_cons_of_mem _ hp)
    have hq := h q (List.mem_cons_self ..)
    rw [List.cons_append]
    unfold fnd
    rw [ih]
    by_cases e : k = id
    · subst e
      rw [if_neg hq, if_pos rfl]
      simp
    · simp [e]
theorem bet_none (X : List Rw) (T : Int) : ∀ k, k ≤ X.length → bet X T k = none → ∀ j, j < k → ¬ (X.getD j (0, 0)).2 ≤ T
  | 0, _, _, j, hj => by omega
  | k + 1, hk, h, j, hj => by
    rw [bet_step] at h
    by_cases hn : (X.getD k (0, 0)).2 ≤ T
    · rw [if_pos hn] at h
      split at h
      · cases h
      · split at h <;> cases h
    · rw [if_neg hn] at h
      rcases Nat.lt_or_eq_of_le (Nat.lt_succ_iff.1 hj) with h1 | h1
      · exact bet_none X T k (by omega) h j h1
      · subst h1; exact hn
theorem lesR_trans {p q r : Rw} (h1 : ¬ lesR p q) (h2 : ¬ lesR q r) : ¬ lesR p r := by
  unfold lesR at *
  omega
theorem lesR_asy {p q : Rw} (h1 : lesR p q) : ¬ lesR q p := by
  unfold lesR at *
  omega
theorem bet_some (X : List Rw) (T : Int) : ∀ k b, k ≤ X.length → bet X T k = some b → (X.getD b (0, 0)).2 ≤ T ∧ ∀ j, j < k → (X.getD j (0, 0)).2 ≤ T → ¬ lesR (X.getD j (0, 0)) (X.getD b (0, 0))
  | 0, b, _, h => by cases h
  | k + 1, b, hk, h => by
    rw [bet_step] at h
    by_cases hn : (X.getD k (0, 0)).2 ≤ T
    · rw [if_pos hn] at h
      split at h
      · rename_i h9
        cases h
        have hN := bet_none X T k (by omega) h9
        refine ⟨hn, fun j hj hj2 => ?_⟩
        rcases Nat.lt_or_eq_of_le (Nat.lt_succ_iff.1 hj) with h1 | h1
        · exact (hN j h1 hj2).elim
        · subst h1; unfold lesR; omega
      · rename_i b' h9
        obtain ⟨i1, i2⟩ := bet_some X T k b' (by omega) h9
        split at h
        · rename_i hl
          cases h
          refine ⟨hn, fun j hj hj2 => ?_⟩
          rcases Nat.lt_or_eq_of_le (Nat.lt_succ_iff.1 hj) with h1 | h1
          · exact lesR_trans (i2 j h1 hj2) (lesR_asy hl)
          · subst h1; unfold lesR; omega
        · rename_i hl
          cases h
          refine ⟨i1, fun j hj hj2 => ?_⟩
          rcases Nat.lt_or_eq_of_le (Nat.lt_succ_iff.1 hj) with h1 | h1
          · exact i2 j h1 hj2
          · subst h1; exact hl
    · rw [if_neg hn] at h
      obtain ⟨i1, i2⟩ := bet_some X T k b (by omega) h
      refine ⟨i1, fun j hj hj2 => ?_⟩
      rcases Nat.lt_or_eq_of_le (Nat.lt_succ_iff.1 hj) with h1 | h1
      · exact i2 j h1 hj2
      · subst h1; exact (hn hj2).elim
/-- The document's Due: its members, its order, what is left. -/
structure DueS (X : List Rw) (T : Int) : Prop where
  mem : ∀ id, id ∈ (dueL X T).1 ↔ ∃ v, fnd X id = some v ∧ v ≤ T
  ord : (dueL X T).1.Pairwise (ltW (fnd X))
  rest : (dueL X T).2 = X.filter (fun p => !decide (p.2 ≤ T))
theorem dueS_any : ∀ (n : Nat) (X : List Rw) (T : Int), X.length = n → Once X → DueS X T := by
  intro n
  induction n using Nat.strongRecOn with
  | _ n ih =>
    intro X T hn ho
    cases hb : bet X T X.length with
    | none =>
      have hN := bet_none X T X.length (Nat.le_refl _) hb
      have hN2 : ∀ p ∈ X, ¬ p.2 ≤ T := fun p hp => by
        obtain ⟨j, hj, rfl⟩ := List.getElem_of_mem hp
        have := hN j hj
        rw [getD_in hj] at this
        exact this
      have e := dueL_none hb
      refine ⟨fun id => ?_, by rw [e]; exact List.Pairwise.nil, ?_⟩
      · rw [e]
        constructor
        · intro h; cases h
        · rintro ⟨v, h1, h2⟩
          exact (hN2 _ (fnd_mem h1) h2).elim
      · rw [e]
        refine (List.filter_eq_self.2 fun p hp => ?_).symm
        simp [hN2 p hp]
    | some b =>
      have hbl := bet_lt _ _ _ _ hb
      obtain ⟨i1, i2⟩ := bet_some X T X.length b (Nat.le_refl _) hb
      have e := dueL_some hb
      have hlt := wth_lt hbl
      have hm : X.getD b (0, 0) ∈ X := by rw [getD_in hbl]; exact List.getElem_mem hbl
      have i3 : ∀ p ∈ X, p.2 ≤ T → ¬ lesR p (X.getD b (0, 0)) := fun p hp h9 => by
        obtain ⟨j, hj, rfl⟩ := List.getElem_of_mem hp
        have := i2 j hj
        rw [getD_in hj] at this
        exact this h9
      generalize X.getD b (0, 0) = q at *
      have hq := fnd_of ho hm
      have I := ih _ (by omega) (wth X q.1) T rfl (once_wth ho _)
      refine ⟨fun id => ?_, ?_, ?_⟩
      · rw [e]
        simp only [List.mem_cons, I.mem, fnd_wth]
        by_cases hi : id = q.1
        · subst hi
          simp [hq, i1]
        · simp [hi]
      · rw [e]
        refine List.pairwise_cons.2 ⟨fun id hid => ?_, ?_⟩
        · obtain ⟨v, h1, h2⟩ := (I.mem id).1 hid
          rw [fnd_wth] at h1
          by_cases hi : id = q.1
          · rw [if_pos hi] at h1; cases h1
          · rw [if_neg hi] at h1
            have h3 := i3 _ (fnd_mem h1) h2
            unfold ltW
            rw [hq, h1]
            unfold lesR at h3
            simp only [Option.getD_some] at h3 ⊢
            omega
        · refine I.ord.imp_of_mem fun {a c} ha hc hac => ?_
          obtain ⟨va, a1, a2⟩ := (I.mem a).1 ha
          obtain ⟨vc, c1, c2⟩ := (I.mem c).1 hc
          unfold ltW at hac ⊢
          rw [fnd_wth, fnd_wth] at hac
          rw [fnd_wth] at a1 c1
          by_cases ha2 : a = q.1
          · rw [if_pos ha2] at a1; cases a1
          · by_cases hc2 : c = q.1
            · rw [if_pos hc2] at c1; cases c1
            · rw [if_neg ha2, if_neg hc2] at hac
              exact hac
      · rw [e]
        dsimp only
        rw [I.rest]
        unfold wth
        rw [List.filter_filter]
        refine List.filter_congr fun p hp => ?_
        by_cases hd : p.2 ≤ T
        · simp [hd]
        · have : p.1 ≠ q.1 := fun e9 => by
            have h8 := fnd_of ho hp
            rw [e9, hq] at h8
            injection h8 with h8
            exact hd (h8 ▸ i1)
          simp [hd, this]
/-- What is left of who waits, when the time is T. -/
def cutF (F : Int → Option Int) (T : Int) : Int → Option Int := fun id => match F id with
  | none => none
  | some v => if v ≤ T then none else some v
theorem cutF_none {F : Int → Option Int} {T id : Int} (h : F id = none) : cutF F T id = none := by unfold cutF; rw [h]
theorem cutF_le {F : Int → Option Int} {T id v : Int} (h : F id = some v) (hv : v ≤ T) : cutF F T id = none := by unfold cutF; rw [h]; exact if_pos hv
theorem cutF_gt {F : Int → Option Int} {T id v : Int} (h : F id = some v) (hv : ¬ v ≤ T) : cutF F T id = some v := by unfold cutF; rw [h]; exact if_neg hv
theorem cutF_some {F : Int → Option Int} {T id v : Int} (h : cutF F T id = some v) : F id = some v ∧ ¬ v ≤ T := by
  unfold cutF at h
  split at h
  · cases h
  · rename_i x hx
    split at h
    · cases h
    · rename_i hv
      cases h
      exact ⟨hx, hv⟩
theorem fnd_rest {X : List Rw} (h : Once X) (T k : Int) : fnd (X.filter (fun p => !decide (p.2 ≤ T))) k = cutF (fnd X) T k := by
  cases hf : fnd X k with
  | none =>
    rw [cutF_none hf]
    refine fnd_none fun p hp e => ?_
    have h1 := (List.mem_filter.1 hp).1
    have h2 := fnd_of h h1
    rw [e, hf] at h2
    cases h2
  | some v =>
    by_cases hv : v ≤ T
    · rw [cutF_le hf hv]
      refine fnd_none fun p hp e => ?_
      obtain ⟨h1, h3⟩ := List.mem_filter.1 hp
      have h2 := fnd_of h h1
      rw [e, hf] at h2
      cases h2
      simp [hv] at h3
    · rw [cutF_gt hf hv]
      have hm : (k, v) ∈ X.filter (fun p => !decide (p.2 ≤ T)) := List.mem_filter.2 ⟨fnd_mem hf, by simp [hv]⟩
      exact fnd_of (X := X.filter (fun p => !decide (p.2 ≤ T))) (List.Pairwise.filter _ h) hm
/-- F and G hold the same of numbers of their kind. -/
def EqF (F G : Int → Option Int) : Prop := ∀ id : Int, (Lit.int .i64 id).wf = true → F id = G id
theorem FD.cong {D : DataW Unit} {F G : Int → Option Int} (h : FD D F) (e : EqF F G) : FD D G := fun id hw => by rw [← e id hw]; exact h id hw
theorem CK.cong {b m n : Nat} {now : Int} {F G : Int → Option Int} {w : World} (h : CK b m n now F w) (e : EqF F G) : CK b m n now G w := by
  obtain ⟨D, h1, h2⟩ := h.hm
  exact ⟨h.hb, ⟨D, h1, h2.cong e⟩, h.ne⟩
/-- Who has been met, of those that are due. -/
structure Col (F : Int → Option Int) (T : Int) (left : Lit → Bool) (l : List Int) : Prop where
  nd : l.Nodup
  wf : ∀ x ∈ l, (Lit.int .i64 x).wf = true
  mem : ∀ x, (Lit.int .i64 x).wf = true → (x ∈ l ↔ (∃ v, F x = some v ∧ v ≤ T) ∧ left (.int .i64 x) = false)
  sub : ∀ x, (Lit.int .i64 x).wf = true → left (.int .i64 x) = true → (F x).isSome = true
theorem Col.start {D : DataW Unit} {F : Int → Option Int} (T : Int) (h : FD D F) : Col F T (Maps.has D) [] :=
  ⟨List.nodup_nil, (by simp), fun x hw => (by
    rw [(h x hw).1]
    constructor
    · intro h9; cases h9
    · rintro ⟨⟨v, h1, -⟩, h2⟩
      rw [h1] at h2
      cases h2), fun x hw h9 => (by rw [(h x hw).1] at h9; exact h9)⟩
theorem Col.val {D : DataW Unit} {F : Int → Option Int} {T : Int} {left : Lit → Bool} {l : List Int} (h : Col F T left l) (hf : FD D F) {x c : Int} (hw : (Lit.int .i64 x).wf = true) (hl : left (.int .i64 x) = true) (hat : ∀ zd, D.atKey (.int .i64 x) zd = .lit (.int .i64 c)) : F x = some c := by
  have h1 := h.sub x hw hl
  have h2 := (hf x hw).2
  rw [hat] at h2
  cases hx : F x with
  | none => rw [hx] at h1; cases h1
  | some v =>
    rw [hx] at h2
    injection h2 with h2
    injection h2 with _ h2
    rw [h2]
    rfl
theorem Col.strike {F : Int → Option Int} {T : Int} {left : Lit → Bool} {l : List Int} (h : Col F T left l) {x c : Int} (hw : (Lit.int .i64 x).wf = true) (hl : left (.int .i64 x) = true) (hF : F x = some c) :
    Col F T (fun z => left z && !z.sameKey (.int .i64 x)) (if c ≤ T then l ++ [x] else l) := by
  have hk : ∀ y : Int, (Lit.int .i64 y).sameKey (.int .i64 x) = decide (y = x) := fun y => by
    by_cases e : y = x
    · subst e; simp [Lit.sameKey]
    · have : ¬ (Lit.int .i64 y) = .int .i64 x := fun e9 => e (by injection e9)
      simp [Lit.sameKey, e]
  have hn : x ∉ l := fun hx => by
    have := ((h.mem x hw).1 hx).2
    rw [hl] at this
    cases this
  refine ⟨?_, ?_, ?_, ?_⟩
  · split
    · exact List.nodup_append.2 ⟨h.nd, by simp, fun a ha b hb => by simp at hb; subst hb; exact fun e => hn (e ▸ ha)⟩
    · exact h.nd
  · intro y hy
    split at hy
    · rcases List.mem_append.1 hy with h9 | h9
      · exact h.wf y h9
      · simp at h9; subst h9; exact hw
    · exact h.wf y hy
  · intro y hy
    rw [hk]
    by_cases e : y = x
    · subst e
      by_cases hc : c ≤ T
      · simp [hc, hF]
      · simp [hc, hF, hn]
    · have := h.mem y hy
      by_cases hc : c ≤ T
      · simp [hc, e, this]
      · simp [hc, e, this]
  · intro y hy h9
    have : left (.int .i64 y) = true := by
      cases h8 : left (.int .i64 y)
      · rw [h8] at h9; cases h9
      · rfl
    exact h.sub y hy this
theorem Col.done {F : Int → Option Int} {T : Int} {left : Lit → Bool} {l : List Int} (h : Col F T left l) (hl : ∀ kl, left kl = false) : ∀ x, (Lit.int .i64 x).wf = true → (x ∈ l ↔ ∃ v, F x = some v ∧ v ≤ T) := fun x hw => by
  rw [h.mem x hw, hl]
  simp
/-- The list as the sort sees it, and what it comes to. -/
def toW (l : List Int) (h : ∀ x ∈ l, (Lit.int .i64 x).wf = true) : List WInt := l.pmap (fun x hx => ⟨x, hx⟩) h
theorem toW_val (l : List Int) (h : ∀ x ∈ l, (Lit.int .i64 x).wf = true) : (toW l h).map (·.1) = l := by
  unfold toW
  rw [List.map_pmap]
  simp
def srt (F : Int → Option Int) (l : List WInt) : List WInt := l.mergeSort fun x y => !(ltOf (cmW F)) y x
theorem srt_perm (F : Int → Option Int) (l : List WInt) : (srt F l).Perm l := List.mergeSort_perm _ _
theorem srt_ord {F : Int → Option Int} {l : List WInt} (hn : (l.map (·.1)).Nodup) : ((srt F l).map (·.1)).Pairwise (ltW F) := by
  have h1 : (srt F l).Pairwise (fun x y => (!(ltOf (cmW F)) y x) = true) := by
    refine List.pairwise_mergeSort (fun a b c h1 h2 => ?_) (fun a b => ?_) l
    · simp only [Bool.not_eq_true', ltW_f] at *
      unfold ltW at *
      omega
    · simp only [Bool.or_eq_true, Bool.not_eq_true', ltW_f]
      unfold ltW
      omega
  have h2 : ((srt F l).map (·.1)).Nodup := (((srt_perm F l).map (·.1)).nodup_iff).2 hn
  rw [List.pairwise_map]
  have h3 := List.pairwise_map.1 h2
  refine (h1.and h3).imp fun {a c} h => ?_
  obtain ⟨g1, g2⟩ := h
  simp only [Bool.not_eq_true', ltW_f] at g1
  unfold ltW at *
  omega
end Go.Proofs.Ytpgnekejemockaa
