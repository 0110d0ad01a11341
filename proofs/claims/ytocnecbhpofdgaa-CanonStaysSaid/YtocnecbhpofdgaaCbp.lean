/- How long fields in one form are (layer 50), plain: Cap without its neighbours. -/
import Derived.Test.YtocnecbhpofdgaaCag
namespace Go.Proofs.Ytocnecbhpofdgaa
open Go.RowKit
set_option linter.unusedVariables false
set_option linter.unusedSimpArgs false

def gSum (G : List Grp) : Nat := (G.map fun p => p.2.length).sum
theorem gSum_cons (p : Grp) (G : List Grp) : gSum (p :: G) = p.2.length + gSum G := rfl
theorem gSum_mod : ∀ (G : List Grp) (i : Nat) (f : Fld), i < G.length → gSum (gMod G i f) = gSum G + 1
  | [], i, f, h => by simp at h
  | p :: G, 0, f, h => by
    show gSum ((p.1, p.2 ++ [f]) :: G) = _
    rw [gSum_cons, gSum_cons, List.length_append]
    simp
    omega
  | p :: G, i + 1, f, h => by
    show gSum (p :: gMod G i f) = _
    rw [gSum_cons, gSum_cons, gSum_mod G i f (by simpa using h)]
    omega
theorem gSum_put (G : List Grp) (f : Fld) : gSum (gPut G f) = gSum G + 1 := by
  unfold gPut
  split
  · rename_i i hi
    exact gSum_mod G i f (gIx_lt hi)
  · rw [gSum_mod _ _ _ (by simp)]
    congr 1
    unfold gSum
    simp
theorem gSum_all (l : List Fld) : gSum (gAll l) = l.length := by
  induction h : l.length generalizing l with
  | zero => rw [List.eq_nil_of_length_eq_zero h]; rfl
  | succ n ih =>
    obtain ⟨l', f, rfl⟩ : ∃ l' f, l = l' ++ [f] := ⟨l.dropLast, l.getLast (fun e => by rw [e] at h; cases h), (List.dropLast_concat_getLast _).symm⟩
    rw [gAll_snoc, gSum_put, ih l' (by simp at h; omega)]
theorem fOut_sum : ∀ G : List Grp, (fOut G).length ≤ gSum G
  | [] => Nat.zero_le _
  | p :: G => by
    have h1 := fOut_sum G
    have h3 := fOne_len p.2
    have e : fOut (p :: G) = (fOne p.2).map nmT ++ fOut G := by unfold fOut; rw [List.flatMap_cons]
    rw [e, List.length_append, List.length_map, gSum_cons]
    omega
theorem cFld_len (l : List Fld) : (cFld l).length ≤ l.length := by
  have := fOut_sum (gAll l)
  rw [gSum_all] at this
  exact this
theorem hTail_leN {c : Nat} : ∀ r : List (List UInt8), (∀ x ∈ r, x.length ≤ c) → (Lib.joinTail [44, 32] r).length ≤ r.length * (c + 2)
  | [], _ => by simp [Lib.joinTail]
  | y :: r, h => by
    have h0 := hTail_leN r fun x hx => h x (by simp [hx])
    have h1 := h y (by simp)
    rw [List.length_cons, Nat.succ_mul]
    simp only [Lib.joinTail, List.map_cons, List.flatten_cons, List.length_append, List.length_cons, List.length_nil] at h0 ⊢
    omega
theorem hJoin_sz {L : List ByteArray} {c : Nat} (h : ∀ s ∈ L, s.size ≤ c) : (hJoin L).size ≤ L.length * (c + 2) := by
  show (Lib.join (L.map (·.data.toList)) [44, 32]).toArray.size ≤ _
  rw [List.size_toArray]
  cases L with
  | nil => simp [Lib.join]
  | cons x r =>
    have h1 : x.data.toList.length ≤ c := by have := h x (by simp); simpa using this
    have h2 := hTail_leN (r.map (·.data.toList)) (c := c) fun y hy => by
      obtain ⟨s, hs, rfl⟩ := List.mem_map.1 hy
      have := h s (by simp [hs])
      simpa using this
    rw [List.map_cons, Lib.join_cons, List.length_append, List.length_cons, Nat.succ_mul]
    rw [List.length_map] at h2
    omega
theorem cFld_small {l : List Fld} (hl : l.length ≤ 100) (h : ∀ p ∈ l, p.1.size ≤ 100 ∧ p.2.size ≤ 300) : ∀ f ∈ cFld l, f.1.size ≤ 100 ∧ f.2.size ≤ 30200 := by
  intro f hf
  unfold cFld fOut at hf
  obtain ⟨p, hp, hf⟩ := List.mem_flatMap.1 hf
  obtain ⟨g, hg, rfl⟩ := List.mem_map.1 hf
  obtain ⟨h0, h1⟩ := gAll_ok _ l rfl p hp
  have h2 := gAll_mem _ l rfl p hp
  have h3 : ∀ q ∈ p.2, q.1.size ≤ 100 ∧ q.2.size ≤ 300 := fun q hq => h q (h1 q hq)
  generalize p.2 = L at *
  have h5 : g.1.size ≤ 100 ∧ g.2.size ≤ 30200 := by
    cases L with
    | nil => simp at h0
    | cons x r =>
      have e : fOne (x :: r) = if sgB x.1 then x :: r else [(x.1, hJoin (hAll (x :: r) x.1))] := rfl
      rw [e] at hg
      split at hg
      · have := h3 g hg
        exact ⟨this.1, by omega⟩
      · rw [List.mem_singleton] at hg
        subst hg
        refine ⟨(h3 x (List.mem_cons_self ..)).1, ?_⟩
        have h6 : ∀ s ∈ hAll (x :: r) x.1, s.size ≤ 300 := fun s hs => by
          unfold hAll at hs
          obtain ⟨q, hq, rfl⟩ := List.mem_map.1 hs
          exact (h3 q (List.mem_filter.1 hq).1).2
        have h7 := hJoin_sz h6
        have h8 := hAll_len (x :: r) x.1
        have h9 : (hAll (x :: r) x.1).length * (300 + 2) ≤ 100 * (300 + 2) := Nat.mul_le_mul_right _ (by omega)
        show (hJoin (hAll (x :: r) x.1)).size ≤ 30200
        omega
  have hsz : (nameB g.1).size = g.1.size := by
    have low : ∀ t : ByteArray, (nmL t).size = t.size := fun t => by
      unfold nmL
      split
      · rename_i e; subst e; rfl
      · split
        · rename_i e; subst e; rfl
        · split
          · rename_i e; subst e; rfl
          · split
            · rename_i e; subst e; rfl
            · exact capB_size t
    show (nmL (lowB g.1)).size = _
    rw [low, lowB_size]
  have ht := trimB_size g.2
  exact ⟨by show (nameB g.1).size ≤ 100; omega, by show (trimB g.2).size ≤ 30200; omega⟩
end Go.Proofs.Ytocnecbhpofdgaa
