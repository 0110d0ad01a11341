/- Codings (layer 19): how bodies go, as plain functions; elements that are read. -/
import Derived.Test.YtkfpioadimkogaaGreatDoorLsh
import Derived.Test.YtkfpioadimkogaaGreatDoorHdf
import Derived.Test.YtkfpioadimkogaaGreatDoorFew
import Derived.Test.YtkfpioadimkogaaGreatDoorPre
namespace Go.Proofs.YtkfpioadimkogaaGreatDoor
open Go.RowKit
set_option linter.unusedVariables false
set_option linter.unusedSimpArgs false

/-- An element: its word, whether it has no parameters, whether it can be read. -/
abbrev Cod := ByteArray × Bool × Bool
def codC (c : Cod) : List Value := [.string c.1, .bool c.2.1, .bool c.2.2]
def codOf (x : ByteArray) : Cod := ((prmAll x).2.1, (((prmAll x).2.2.length : Int) == 0), ((prmAll x).1 == 0))
def cvH (l : List Cod) : List Value := l.flatMap codC
theorem cvH_snoc (l : List Cod) (c : Cod) : cvH (l ++ [c]) = cvH l ++ [.string c.1, .bool c.2.1, .bool c.2.2] := by simp [cvH, codC]
theorem Tryz.infoCd : (Tryz.prog.info? 144).map (fun i => (i.zero, i.size, i.bytes)) = some (some (.agg #[.string ByteArray.empty, .bool false, .bool false]), 3, 24) := by kernel_rfl
abbrev RdC (w : World) (v : Value) (l : List Cod) : Prop := RdL codC 3 w v l
theorem rdc_own {w : World} {B : Nat} {v : Value} {l : List Cod} (h : w.ownsRow B 144 3 v l.length (cvH l)) : RdC w v l := RdL.of_own (f := codC) (fun _ => rfl) h
theorem rdc_cells {w : World} {a : Option Addr} {c n : Nat} {l : List Cod} (h : RdC w (.slice a n c) l) (h0 : 0 < l.length) : ∃ b o, a = some ⟨b, o, none⟩ ∧ b < w.heap.size ∧ ∀ (j : Nat) (h : j < l.length), w.cell? ⟨b, o + j * 3, none⟩ = some (.string l[j].1) ∧ w.cell? ⟨b, o + j * 3 + 1, none⟩ = some (.bool l[j].2.1) ∧ w.cell? ⟨b, o + j * 3 + 2, none⟩ = some (.bool l[j].2.2) := by
  obtain ⟨a', c', h1, h2, h3, h4⟩ := h
  cases h1
  obtain ⟨b, o, g1, g2, g3⟩ := h4 h0
  exact ⟨b, o, g1, g2, fun j hj => ⟨by have := g3 j hj 0 (by omega); simpa [codC] using this, by have := g3 j hj 1 (by omega); simpa [codC] using this, by have := g3 j hj 2 (by omega); simpa [codC] using this⟩⟩
/-- The first elements of a row. -/
theorem rdc_init {w : World} {a : Option Addr} {c n m : Nat} {l : List Cod} (h : RdC w (.slice a n c) l) (hm : m ≤ l.length) : RdC w (.slice a m c) (l.take m) := by
  obtain ⟨a', c', h1, h2, h3, h4⟩ := h
  cases h1
  refine ⟨a, c, by rw [List.length_take, Nat.min_eq_left hm], by rw [List.length_take]; omega, h3, fun h0 => ?_⟩
  rw [List.length_take] at h0
  obtain ⟨b, o, g1, g2, g3⟩ := h4 (by omega)
  refine ⟨b, o, g1, g2, fun j hj i hi => ?_⟩
  rw [List.length_take] at hj
  rw [List.getElem_take]
  exact g3 j (by omega) i hi
def chW : ByteArray := ⟨#[99, 104, 117, 110, 107, 101, 100]⟩
def isCh (c : Cod) : Bool := c.1.toList == [99, 104, 117, 110, 107, 101, 100]
def isTr (c : Cod) : Bool := c.1.toList == [116, 114, 97, 105, 108, 101, 114, 115]
def isUn (c : Cod) : Bool := !c.2.2
/-- P19.1. -/
def goodC (n j : Nat) (c : Cod) : Bool := c.2.2 && (isCh c == decide (j + 1 = n) && (!decide (j + 1 = n) || c.2.1))
def allC (L : List Cod) : Bool := (List.range L.length).all fun j => goodC L.length j ((L[j]?).getD (⟨#[]⟩, false, false))
def chR (has ok : Bool) (L : List Cod) : Bool × Int :=
  if has = false then (false, 0) else if (ok && (decide (0 < L.length) && allC L)) = false then (false, 14) else if 1 < L.length then (false, 15) else (true, 0)
def trR (L : List Cod) : Bool := L.any isTr
theorem allC_iff {L : List Cod} : allC L = true ↔ ∀ (j : Nat) (h : j < L.length), goodC L.length j L[j] = true := by
  unfold allC
  rw [List.all_eq_true]
  constructor
  · intro h j hj
    have := h j (List.mem_range.2 hj)
    rw [List.getElem?_eq_getElem hj] at this
    exact this
  · intro h j hj
    have hj := List.mem_range.1 hj
    rw [List.getElem?_eq_getElem hj]
    exact h j hj
theorem allC_hit {L : List Cod} {j : Nat} (h : j < L.length) (hf : goodC L.length j L[j] = false) : allC L = false := by
  cases he : allC L
  · rfl
  · rw [allC_iff.1 he j h] at hf; cases hf
theorem chR_no {ok : Bool} {L : List Cod} : chR false ok L = (false, 0) := rfl
theorem chR_bad {ok : Bool} {L : List Cod} (h : ok = false ∨ L.length = 0 ∨ allC L = false) : chR true ok L = (false, 14) := by
  unfold chR
  rw [if_neg (by decide), if_pos]
  rcases h with h | h | h
  · rw [h]; rfl
  · rw [decide_eq_false (p := 0 < L.length) (by omega)]; simp
  · rw [h]; simp
theorem chR_many {L : List Cod} (h1 : 1 < L.length) (h2 : allC L = true) : chR true true L = (false, 15) := by
  unfold chR
  rw [if_neg (by decide), if_neg (by rw [decide_eq_true (p := 0 < L.length) (by omega), h2]; simp), if_pos h1]
theorem chR_one {L : List Cod} (h1 : L.length = 1) (h2 : allC L = true) : chR true true L = (true, 0) := by
  unfold chR
  rw [if_neg (by decide), if_neg (by rw [decide_eq_true (p := 0 < L.length) (by omega), h2]; simp), if_neg (by omega)]
/-- Said by the first that can't be read, the last, the ones before. -/
theorem allC_parts {L : List Cod} {n : Nat} (h : L.length = n + 1) : allC L = (!L.any isUn && (isCh (L[n]'(by omega)) && ((L[n]'(by omega)).2.1 && !(L.take n).any isCh))) := by
  rw [Bool.eq_iff_iff, allC_iff]
  simp only [Bool.and_eq_true, Bool.not_eq_true', List.any_eq_false]
  constructor
  · intro g
    have gl := g n (by omega)
    unfold goodC at gl
    rw [decide_eq_true (p := n + 1 = L.length) (by omega)] at gl
    simp only [Bool.and_eq_true, beq_iff_eq, Bool.not_true, Bool.false_or] at gl
    refine ⟨fun c hc => ?_, gl.2.1, gl.2.2, fun c hc => ?_⟩
    · obtain ⟨j, hj, rfl⟩ := List.getElem_of_mem hc
      have := g j hj
      unfold goodC at this
      simp only [Bool.and_eq_true] at this
      unfold isUn
      rw [this.1]; simp
    · obtain ⟨j, hj, rfl⟩ := List.getElem_of_mem hc
      rw [List.length_take] at hj
      rw [List.getElem_take]
      have := g j (by omega)
      unfold goodC at this
      rw [decide_eq_false (p := j + 1 = L.length) (by omega)] at this
      simp only [Bool.and_eq_true, beq_iff_eq] at this
      rw [this.2.1]; simp
  · rintro ⟨g1, g2, g3, g4⟩ j hj
    have r1 := g1 _ (List.getElem_mem hj)
    unfold isUn at r1
    unfold goodC
    by_cases hjn : j + 1 = L.length
    · have : j = n := by omega
      subst this
      rw [decide_eq_true hjn, g2, g3]
      simpa using r1
    · have hm : L[j] ∈ L.take n := by
        have hl : j < (L.take n).length := by rw [List.length_take]; omega
        have := List.getElem_mem hl
        rw [List.getElem_take] at this
        exact this
      have := g4 _ hm
      rw [decide_eq_false hjn]
      simp only [Bool.not_eq_true] at this
      rw [this]
      simpa using r1
def codsOf (L : List ByteArray) : List Cod := L.map codOf
theorem cods_len (L : List ByteArray) : (codsOf L).length = L.length := List.length_map ..
theorem cods_take {L : List ByteArray} {k : Nat} (h : k < L.length) : (L.take (k + 1)).map codOf = (L.take k).map codOf ++ [codOf L[k]] := by
  rw [List.take_succ_eq_append_getElem h, List.map_append]
  rfl
def codP (L : List ByteArray) (k : Nat) : List Cod := (L.take k).map codOf
theorem codP_step {L : List ByteArray} {k : Nat} (h : k < L.length) : codP L (k + 1) = codP L k ++ [codOf L[k]] := cods_take h
theorem codP_len (L : List ByteArray) (k : Nat) : (codP L k).length ≤ k := by unfold codP; rw [List.length_map, List.length_take]; omega
theorem codP_all {L : List ByteArray} {k : Nat} (h : L.length ≤ k) : codP L k = codsOf L := by unfold codP codsOf; rw [List.take_of_length_le h]
def RetCd (L : List Cod) (w : World) (e : Ending) (w' : World) : Prop := ∃ u, e = .returned u ∧ w'.ownsRow w.heap.size 144 3 u L.length (cvH L) ∧ Below w.heap.size w w'
set_option maxRecDepth 100000 in
set_option maxHeartbeats 2000000 in
theorem cread_any (v : Value) (ns : List ByteArray) (w : World) (hv : RdS w v ns) (hz : ∀ n ∈ ns, n.size ≤ 100000) (hl : ns.length ≤ 100000) :
    Calls Tryz.prog 149 #[v] w (RetCd (codsOf ns) w) := by
  have HV := Kp.mk hv
  have HZ := Kp.mk hz
  obtain ⟨a, cap, rfl, hc1, hc2, -⟩ := hv
  clear hz hc2
  go_enter Tryz.func149, Tryz.ntmps149
  go_wp2_with fail
  go_loopw [3, 11] (fun ov i wr => ∃ k : Nat, k ≤ ns.length ∧ i = .int .i64 k ∧ wr.ownsRow w.heap.size 144 3 ov (codP ns k).length (cvH (codP ns k)) ∧ Below w.heap.size w wr) (fun _ i _ => ns.length - (intOf i).toNat)
  case atStart => exact ⟨0, by omega, rfl, World.ownsRow_nil _ _ _ _, Below.refl _ _⟩
  case round =>
    obtain ⟨k, hk, rfl, hown, hb⟩ := hrel
    obtain ⟨av, cv, rfl⟩ := own_lenH hown
    have HO := Kp.mk hown
    have HB := Kp.mk hb
    have hsz := hb.size
    have hle := codP_len ns k
    clear hown hb
    by_cases hlt : k < ns.length
    · obtain ⟨g, o, rfl, hgl, d0⟩ := rds_cells (HV.out.below HB.out) (by omega)
      have c1 := d0 k hlt
      have m1 := HZ.out ns[k] (List.getElem_mem hlt)
      have q0 : (0 : Int) ≤ (k : Int) := by omega
      have q1 : (k : Int) < (ns.length : Int) := by omega
      have HST := Kp.mk (codP_step hlt)
      clear d0
      generalize ns[k] = x at *
      have HP := Kp.mk (fun W => parse_any x W (by omega))
      have HC := Kp.mk (show codOf x = ((prmAll x).2.1, (((prmAll x).2.2.length : Int) == 0), ((prmAll x).1 == 0)) from rfl)
      unfold ParPost at HP
      generalize codP ns k = P at *
      generalize codOf x = cx at *
      generalize prmAll x = pm at *
      obtain ⟨er, wd, pl⟩ := pm
      have hlen : (P.length + 1) * 24 ≤ 140737488355328 := by omega
      have hmx : P.length + 1 ≤ maxLen := by unfold maxLen; omega
      go_wp2_with fail
      refine (HP.out _).mono ?_
      rintro e w2 ⟨u, rfl, ho, hb2⟩
      try dsimp only at ho
      obtain ⟨a9, c9, rfl⟩ := own_lenH ho
      have HO2 := Kp.mk (own_bel HO.out hb2)
      have HB2 := Kp.mk (HB.out.trans (hb2.mono hsz))
      have hsz2 := HB2.out.size
      clear hb2 ho c1
      have HC1 := Kp.mk (show cx.1 = wd by rw [HC.out])
      have HC2 := Kp.mk (show cx.2.1 = ((pl.length : Int) == 0) by rw [HC.out])
      have HC3 := Kp.mk (show cx.2.2 = (er == 0) by rw [HC.out])
      generalize pl.length = pn at *
      go_wp2_with (at_builtin; refine app_any rfl _ _ _ _ rfl Tryz.underlying141 _ _ _ Tryz.infoCd rfl (by omega) w.heap.size _ _ _ rfl HO2.out #[.string wd, .bool ((pn : Int) == 0), .bool (er == 0)] rfl (fun u hu => by simp at hu; rcases hu with rfl | rfl | rfl <;> rfl) _ rfl rfl hlen hmx hsz2 ?_; intro g9 cap9 w9 h1 h2 h3; have G3 := Kp.mk h1; have G4 := Kp.mk (grown_bel HO2.out hsz2 h2); clear h1 h2 h3)
      go_roundw
      case rel =>
        refine ⟨k + 1, by omega, by go_num, ?_, HB2.out.trans G4.out⟩
        rw [HST.out, List.length_append, cvH_snoc, HC1.out, HC2.out, HC3.out]
        exact G3.out
      case measure => simp [intOf]; omega
    · have HK := Kp.mk (codP_all (L := ns) (k := k) (by omega))
      go_wp2_with fail
      go_ret
      exact ⟨_, rfl, by rw [← HK.out]; exact HO.out, HB.out⟩
end Go.Proofs.YtkfpioadimkogaaGreatDoor
