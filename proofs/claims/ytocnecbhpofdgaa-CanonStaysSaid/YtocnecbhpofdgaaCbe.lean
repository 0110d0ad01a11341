/- Fields in one form (layer 50), plain: what is sorted is the same where each name's fields are. -/
import Derived.Test.YtocnecbhpofdgaaCbb
import Derived.Test.YtocnecbhpofdgaaCah
import Derived.Test.YtocnecbhpofdgaaCaj
namespace Go.Proofs.Ytocnecbhpofdgaa
open Go.RowKit Go.Shelf Go.Lib Go.Sort
set_option linter.unusedVariables false
set_option linter.unusedSimpArgs false

/-- The fields of just this name. -/
def kF (k : ByteArray) (L : List Fld) : List Fld := L.filter fun p => decide (p.1 = k)
theorem kF_nil (k : ByteArray) : kF k [] = [] := rfl
theorem kF_cons (k : ByteArray) (p : Fld) (L : List Fld) : kF k (p :: L) = if p.1 = k then p :: kF k L else kF k L := by
  unfold kF
  rw [List.filter_cons]
  by_cases h : p.1 = k <;> simp [h]
theorem kF_append (k : ByteArray) (L M : List Fld) : kF k (L ++ M) = kF k L ++ kF k M := by unfold kF; rw [List.filter_append]
theorem kF_mem {k : ByteArray} {p : Fld} {L : List Fld} : p ∈ kF k L ↔ p ∈ L ∧ p.1 = k := by unfold kF; simp
theorem cm_irr (x : ByteArray) : bsL x x = false := by
  cases h : bsL x x
  · rfl
  · rw [bsL_asym h] at h; cases h
/-- What is put in place keeps the order within its name. -/
theorem kF_ins (k : ByteArray) (y : Fld) : ∀ T : List Fld, Srt (ltOf cmF) T → kF k (inS (ltOf cmF) y T) = kF k (T ++ [y])
  | [], _ => rfl
  | t :: T, h => by
    obtain ⟨h1, h2⟩ := List.pairwise_cons.1 h
    rw [inS]
    by_cases hl : ltOf cmF y t = true
    · rw [if_pos hl]
      have hk : ∀ p ∈ t :: T, p.1 ≠ y.1 := by
        intro p hp e
        have hyp : ltOf cmF y p = true := by
          rcases List.mem_cons.1 hp with rfl | hp
          · exact hl
          · exact swoF.ltle hl (h1 p hp)
        rw [cmF_lt, e, cm_irr] at hyp
        cases hyp
      rw [kF_cons, kF_append]
      by_cases hy : y.1 = k
      · have hn : kF k (t :: T) = [] := by
          unfold kF
          rw [List.filter_eq_nil_iff]
          intro p hp
          simp only [decide_eq_true_eq]
          exact fun e => hk p hp (e.trans hy.symm)
        rw [if_pos hy, hn, kF_cons, if_pos hy]
        rfl
      · rw [if_neg hy, kF_cons (p := y), if_neg hy, kF_nil, List.append_nil]
    · rw [if_neg hl, List.cons_append, kF_cons, kF_cons, kF_ins k y T h2]
theorem kF_isrt (k : ByteArray) (L : List Fld) : kF k (isrt (ltOf cmF) L) = kF k L := by
  refine snoc_ind (P := fun L => kF k (isrt (ltOf cmF) L) = kF k L) rfl ?_ L
  intro X y ih
  rw [isrt_snoc, kF_ins k y _ (isrt_srt swoF X), kF_append, ih, kF_append]
/-- What is sorted is one list, where each name's fields are. -/
theorem srt_by : ∀ {A B : List Fld}, Srt (ltOf cmF) A → Srt (ltOf cmF) B → (∀ k, kF k A = kF k B) → A = B
  | [], B, _, _, h => by
    cases B with
    | nil => rfl
    | cons b B =>
      have := h b.1
      rw [kF_nil, kF_cons, if_pos rfl] at this
      cases this
  | a :: A, [], _, _, h => by
    have := h a.1
    rw [kF_nil, kF_cons, if_pos rfl] at this
    cases this
  | a :: A, b :: B, hA, hB, h => by
    obtain ⟨a1, a2⟩ := List.pairwise_cons.1 hA
    obtain ⟨b1, b2⟩ := List.pairwise_cons.1 hB
    have ha : a ∈ b :: B := by
      have : a ∈ kF a.1 (b :: B) := by rw [← h a.1]; exact kF_mem.2 ⟨by simp, rfl⟩
      exact (kF_mem.1 this).1
    have hb : b ∈ a :: A := by
      have : b ∈ kF b.1 (a :: A) := by rw [h b.1]; exact kF_mem.2 ⟨by simp, rfl⟩
      exact (kF_mem.1 this).1
    have e1 : bsL a.1 b.1 = false := by
      rcases List.mem_cons.1 ha with rfl | ha
      · exact cm_irr _
      · have := b1 a ha
        rw [cmF_lt] at this
        exact this
    have e2 : bsL b.1 a.1 = false := by
      rcases List.mem_cons.1 hb with rfl | hb
      · exact cm_irr _
      · have := a1 b hb
        rw [cmF_lt] at this
        exact this
    have ek := bsL_eq e1 e2
    have hk := h a.1
    rw [kF_cons, if_pos rfl, kF_cons, if_pos ek.symm] at hk
    obtain ⟨rfl, ht⟩ := List.cons.inj hk
    rw [srt_by a2 b2 (fun k => by
      have := h k
      rw [kF_cons, kF_cons] at this
      by_cases e : a.1 = k
      · rw [if_pos e, if_pos e] at this
        exact (List.cons.inj this).2
      · rw [if_neg e, if_neg e] at this
        exact this)]
/-- As the document has it: as many, and for each one's name the same values. -/
def rSm (x y : List Fld) : Bool := decide (x.length = y.length) && x.all fun p => sameL (hAll x p.1) (hAll y p.1)
/-- Names that are in their one form. -/
def Cn (L : List Fld) : Prop := ∀ p ∈ L, nameB p.1 = p.1
theorem nameB_fold {a b : ByteArray} (h : foldB a b = true) : nameB a = nameB b := by
  rw [foldB_iff, decide_eq_true_eq] at h
  unfold nameB
  rw [h]
theorem cn_fold {a b : ByteArray} (ha : nameB a = a) (hb : nameB b = b) : foldB a b = decide (a = b) := by
  cases h : foldB a b
  · rw [eq_comm, decide_eq_false_iff_not]
    rintro rfl
    rw [foldB_iff, decide_eq_false_iff_not] at h
    exact h rfl
  · rw [eq_comm, decide_eq_true_eq, ← ha, ← hb]
    exact nameB_fold h
theorem hAll_cn {L : List Fld} (h : Cn L) {k : ByteArray} (hk : nameB k = k) : hAll L k = (kF k L).map (·.2) := by
  unfold hAll kF
  congr 1
  refine List.filter_congr fun p hp => ?_
  exact cn_fold (h p hp) hk
theorem kF_vals {k : ByteArray} : ∀ {A B : List Fld}, (∀ p ∈ A, p.1 = k) → (∀ p ∈ B, p.1 = k) → A.map (·.2) = B.map (·.2) → A = B
  | [], [], _, _, _ => rfl
  | [], _ :: _, _, _, h => by cases h
  | _ :: _, [], _, _, h => by cases h
  | a :: A, b :: B, ha, hb, h => by
    simp only [List.map_cons, List.cons.injEq] at h
    have e : a = b := Prod.ext ((ha a (by simp)).trans (hb b (by simp)).symm) h.1
    rw [e, kF_vals (fun p hp => ha p (List.mem_cons_of_mem _ hp)) (fun p hp => hb p (List.mem_cons_of_mem _ hp)) h.2]
theorem kF_only {k : ByteArray} {L : List Fld} : ∀ p ∈ kF k L, p.1 = k := fun p hp => (kF_mem.1 hp).2
theorem rest_len (k : ByteArray) (L : List Fld) : L.length = (kF k L).length + (L.filter fun p => !decide (p.1 = k)).length := by
  unfold kF
  induction L with
  | nil => rfl
  | cons p L ih =>
    rw [List.filter_cons, List.filter_cons]
    by_cases h : p.1 = k <;> simp [h, ih] <;> omega
/-- Lists of one length, the second of which has each name of the first as often, have the same fields of each name. -/
theorem all_names : ∀ (n : Nat) (A B : List Fld), A.length ≤ n → A.length = B.length → (∀ p ∈ A, kF p.1 A = kF p.1 B) → ∀ k, kF k A = kF k B
  | _, [], B, _, hl, _, k => by rw [List.length_eq_zero_iff.1 (show B.length = 0 from hl.symm)]
  | 0, _ :: _, _, hn, _, _, _ => by simp at hn
  | n + 1, a :: A, B, hn, hl, h, k => by
    have ha := h a (by simp)
    by_cases hk : a.1 = k
    · rw [← hk]; exact ha
    · have key : ∀ (L : List Fld) (j : ByteArray), j ≠ a.1 → kF j (L.filter fun p => !decide (p.1 = a.1)) = kF j L := by
        intro L j hj
        unfold kF
        rw [List.filter_filter]
        refine List.filter_congr fun p _ => ?_
        by_cases e : p.1 = j
        · have : ¬ p.1 = a.1 := fun e2 => hj (e.symm.trans e2)
          simp [e, this, hj]
        · simp [e]
      have l1 := rest_len a.1 (a :: A)
      have l2 := rest_len a.1 B
      have hp1 : 0 < (kF a.1 (a :: A)).length := by rw [kF_cons, if_pos rfl]; simp
      have := all_names n ((a :: A).filter fun p => !decide (p.1 = a.1)) (B.filter fun p => !decide (p.1 = a.1)) (by omega) (by rw [ha] at l1; omega) (fun p hp => by
        obtain ⟨hp1, hp2⟩ := List.mem_filter.1 hp
        have hne : p.1 ≠ a.1 := by simpa using hp2
        rw [key _ _ hne, key _ _ hne]
        exact h p hp1) k
      rw [key _ _ (fun e => hk e.symm), key _ _ (fun e => hk e.symm)] at this
      exact this
theorem rSm_sorted {x y : List Fld} (hx : Cn x) (hy : Cn y) : rSm x y = sameL (isrt (ltOf cmF) x) (isrt (ltOf cmF) y) := by
  rw [Bool.eq_iff_iff]
  unfold rSm sameL
  rw [Bool.and_eq_true, decide_eq_true_eq, List.all_eq_true, decide_eq_true_eq]
  constructor
  · rintro ⟨hl, h⟩
    refine srt_by (isrt_srt swoF x) (isrt_srt swoF y) fun k => ?_
    rw [kF_isrt, kF_isrt]
    refine all_names _ x y (Nat.le_refl _) hl (fun p hp => ?_) k
    have h1 := of_decide_eq_true (h p hp)
    rw [hAll_cn hx (hx p hp), hAll_cn hy (hx p hp)] at h1
    exact kF_vals kF_only kF_only h1
  · intro h
    have hk : ∀ k, kF k x = kF k y := fun k => by rw [← kF_isrt k x, ← kF_isrt k y, h]
    refine ⟨by rw [← isrt_length (ltOf cmF) x, ← isrt_length (ltOf cmF) y, h], fun p hp => decide_eq_true ?_⟩
    rw [hAll_cn hx (hx p hp), hAll_cn hy (hx p hp), hk]
theorem cFld_cn (l : List Fld) : Cn (cFld l) := by
  intro f hf
  unfold cFld fOut at hf
  obtain ⟨p, hp, hf⟩ := List.mem_flatMap.1 hf
  obtain ⟨g, hg, rfl⟩ := List.mem_map.1 hf
  exact nameB_nameB g.1
theorem cSr_same (l m : List Fld) : sameL (cSr l) (cSr m) = rSm (cFld l) (cFld m) := (rSm_sorted (cFld_cn l) (cFld_cn m)).symm
end Go.Proofs.Ytocnecbhpofdgaa
