/- Connections (layer 17): what the fields Connection say; plain functions, and rows that are written in place. -/
import Derived.Test.YtgamekfickheaaaGreatLsh
import Derived.Test.YtgamekfickheaaaGreatHdf
import Derived.Test.YtgamekfickheaaaGreatHde
import Derived.Test.YtgamekfickheaaaGreatFew
namespace Go.Proofs.YtgamekfickheaaaGreat
open Go.RowKit
set_option linter.unusedVariables false
set_option linter.unusedSimpArgs false

def nmCon : ByteArray := ⟨#[67, 111, 110, 110, 101, 99, 116, 105, 111, 110]⟩
def conV (l : List Fld) : ByteArray := hJoin (hAll l nmCon)
def conOk (v : ByteArray) : Bool := splB v && (splL v).all tokenB
/-- P17.1. -/
def conW (v : ByteArray) : List ByteArray := if conOk v = true then (splL v).map lowB else []
def conE (v : ByteArray) : Int := if conOk v = true then 0 else 3
theorem hTail_c {c : Nat} : ∀ r : List (List UInt8), (∀ x ∈ r, x.length ≤ c) → (Lib.joinTail [44, 32] r).length ≤ r.length * (c + 2)
  | [], _ => by simp [Lib.joinTail]
  | y :: r, h => by
    have h0 := hTail_c r fun x hx => h x (by simp [hx])
    have h1 := h y (by simp)
    simp only [Lib.joinTail, List.map_cons, List.flatten_cons, List.length_append, List.length_cons, List.length_nil] at h0 ⊢
    rw [Nat.add_mul]
    omega
theorem hJoin_c {c : Nat} {L : List ByteArray} (h : ∀ s ∈ L, s.size ≤ c) : (hJoin L).size ≤ L.length * (c + 2) := by
  show (Lib.join (L.map (·.data.toList)) [44, 32]).toArray.size ≤ _
  rw [List.size_toArray]
  cases L with
  | nil => simp [Lib.join]
  | cons x r =>
    have h1 : x.data.toList.length ≤ c := by have := h x (by simp); simpa using this
    have h2 := hTail_c (c := c) (r.map (·.data.toList)) fun y hy => by
      obtain ⟨s, hs, rfl⟩ := List.mem_map.1 hy
      have := h s (by simp [hs])
      simpa using this
    rw [List.map_cons, Lib.join_cons, List.length_append, List.length_cons, Nat.add_mul]
    rw [List.length_map] at h2
    omega
/-- Fields as few as the statements look at. -/
structure FewF (l : List Fld) : Prop where
  len : l.length ≤ 50
  val : ∀ p ∈ l, p.1.size ≤ 1000 ∧ p.2.size ≤ 1000
theorem FewF.sm {l : List Fld} (h : FewF l) : ∀ p ∈ l, FldSm p := fun p hp => ⟨by have := (h.val p hp).1; omega, by have := (h.val p hp).2; omega⟩
theorem FewF.comb {l : List Fld} (h : FewF l) (nm : ByteArray) : (hJoin (hAll l nm)).size ≤ 50100 := by
  have h1 := hJoin_c (c := 1000) (L := hAll l nm) fun s hs => by
    obtain ⟨p, hp, rfl⟩ := List.mem_map.1 hs
    exact (h.val p (List.mem_filter.1 hp).1).2
  have h2 := hAll_len l nm
  have h3 := h.len
  have h4 : (hAll l nm).length * (1000 + 2) ≤ 50 * 1002 := Nat.mul_le_mul_right _ (by omega)
  omega
theorem fewF_of {l : List Fld} (h : hFew l = true) : FewF l := ⟨by have := (hFew_out h).1; omega, fun p hp => by have := hFew_vals h p hp; omega⟩
theorem svH_map (l : List ByteArray) : svH l = l.map Value.string := by
  unfold svH strC
  induction l with
  | nil => rfl
  | cons x r ih => rw [List.flatMap_cons, ih]; rfl
/-- A cell of an own row, written. -/
theorem own_store {w : World} {B : Nat} {e : TypeId} {n g cap k : Nat} {xs : List Value} {u : Value} (h : w.ownsRow B e 1 (.slice (some ⟨g, 0, none⟩) n cap) n xs) (hk : k < n) :
    (w.setCell ⟨g, k, none⟩ u).ownsRow B e 1 (.slice (some ⟨g, 0, none⟩) n cap) n (xs.set k u) := by
  refine ⟨by rw [List.length_set]; exact h.1, ?_⟩
  rcases h.2 with ⟨h2, _⟩ | ⟨g', cap', cur, h2, h3, hg, h4, h5, h6, h7⟩
  · cases h2
  · cases h2
    refine .inr ⟨g, cap, cur.setIfInBounds k u, rfl, h3, blk_set hg _, h4, h5, by rw [Array.size_setIfInBounds]; exact h6, ?_⟩
    rw [Array.toList_setIfInBounds, List.take_set, h7]
def lowT (L : List ByteArray) (k : Nat) : List ByteArray := (L.take k).map lowB ++ L.drop k
theorem lowT_zero (L : List ByteArray) : lowT L 0 = L := by simp [lowT]
theorem lowT_len (L : List ByteArray) (k : Nat) : (lowT L k).length = L.length := by
  unfold lowT
  rw [List.length_append, List.length_map, List.length_take, List.length_drop]
  omega
theorem lowT_all {L : List ByteArray} {k : Nat} (h : L.length ≤ k) : lowT L k = L.map lowB := by
  unfold lowT
  rw [List.take_of_length_le h, List.drop_of_length_le h, List.append_nil]
theorem lowT_step {L : List ByteArray} {k : Nat} (h : k < L.length) : lowT L (k + 1) = (lowT L k).set k (lowB L[k]) := by
  unfold lowT
  have e : ((L.take k).map lowB).length = k := by rw [List.length_map, List.length_take]; omega
  rw [List.take_succ_eq_append_getElem h, List.map_append, List.append_assoc, List.drop_eq_getElem_cons h, List.set_append_right _ _ (by omega), e, Nat.sub_self]
  rfl
theorem lowT_at {L : List ByteArray} {k : Nat} (h : k < L.length) : (lowT L k)[k]'(by rw [lowT_len]; exact h) = L[k] := by
  unfold lowT
  have e : ((L.take k).map lowB).length = k := by rw [List.length_map, List.length_take]; omega
  rw [List.getElem_append_right (by omega)]
  simp only [e, Nat.sub_self, List.getElem_drop, Nat.add_zero]
theorem low_step {L : List ByteArray} {k : Nat} (h : k < L.length) : (L.take (k + 1)).map lowB = (L.take k).map lowB ++ [lowB L[k]] := by
  rw [List.take_succ_eq_append_getElem h, List.map_append]
  rfl
theorem tok_hit {L : List ByteArray} {k : Nat} (h : k < L.length) (hf : tokenB L[k] = false) : L.all tokenB = false := List.all_eq_false.2 ⟨_, List.getElem_mem h, by simp [hf]⟩
def okT (L : List ByteArray) (k : Nat) : Prop := ∀ (j : Nat) (h : j < L.length), j < k → tokenB L[j] = true
theorem okT_all {L : List ByteArray} {k : Nat} (hk : L.length ≤ k) (h : okT L k) : L.all tokenB = true := List.all_eq_true.2 fun x hx => by
  obtain ⟨j, hj, rfl⟩ := List.getElem_of_mem hx
  exact h j hj (by omega)
theorem con_bad {v : ByteArray} (h : splB v = false ∨ (splL v).all tokenB = false) : conE v = 3 ∧ conW v = [] := by
  have : conOk v = false := by unfold conOk; rcases h with h | h <;> rw [h] <;> simp
  unfold conE conW
  rw [this]
  exact ⟨rfl, rfl⟩
theorem con_good {v : ByteArray} (h1 : splB v = true) (h2 : (splL v).all tokenB = true) : conE v = 0 ∧ conW v = (splL v).map lowB := by
  have : conOk v = true := by unfold conOk; rw [h1, h2]; rfl
  unfold conE conW
  rw [this]
  exact ⟨rfl, rfl⟩
theorem conW_len (v : ByteArray) : (conW v).length ≤ v.size + 1 := by
  have := splL_len v
  unfold conW
  split
  · rw [List.length_map]; exact this
  · simp
theorem conW_mem {v x : ByteArray} (h : x ∈ conW v) : x.size ≤ v.size := by
  unfold conW at h
  split at h
  · rw [List.mem_map] at h
    obtain ⟨y, hy, rfl⟩ := h
    rw [lowB_size]
    exact (splL_mem hy).2
  · cases h
/-- Is the text one of the words? -/
def inW (x : ByteArray) (L : List ByteArray) : Bool := L.any fun y => y.toList == x.toList
theorem inW_take {x : ByteArray} {l : List ByteArray} {k : Nat} (h : k < l.length) : inW x (l.take (k + 1)) = (inW x (l.take k) || (l[k].toList == x.toList)) := by
  unfold inW
  rw [List.take_succ_eq_append_getElem h, List.any_append]
  simp
theorem inW_hit {x : ByteArray} {l : List ByteArray} {k : Nat} (h : k < l.length) (hf : (l[k].toList == x.toList) = true) : inW x l = true := List.any_eq_true.2 ⟨_, List.getElem_mem h, hf⟩
/-- P17.2. -/
def perB (minor : Int) (v : ByteArray) : Bool := decide (conE v = 0) && (!inW ⟨#[99, 108, 111, 115, 101]⟩ (conW v) && (decide (0 < minor) || inW ⟨#[107, 101, 101, 112, 45, 97, 108, 105, 118, 101]⟩ (conW v)))
end Go.Proofs.YtgamekfickheaaaGreat
