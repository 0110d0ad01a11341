/- Settings (layer 13), plain: which may be, and their text (bin/mkcfb.py). -/
import Derived.Test.YtggnnaafkekihaaDoorHob
import Derived.Test.YtggnnaafkekihaaDoorHog
namespace Go.Proofs.YtggnnaafkekihaaDoor
open Go.RowKit
set_option linter.unusedVariables false
set_option linter.unusedSimpArgs false

/-- From what to what a number may be. -/
def cfLo (k : Nat) : Int := [0, 0, 0, 0, 1, 1, 0, 0, 1, 1, 0, 16, 1, 3, 0, 0].getD k 0
def cfHi (k : Nat) : Int := [1, 1, 1, 1, 65536, 65536, 100, 1073741824, 16, 16, 1, 65536, 1000, 4096, 1048576, 1].getD k 0
def cfIn (L : List Int) : Bool := (List.range 16).all fun j => decide (cfLo j ≤ L.getD j 0) && decide (L.getD j 0 ≤ cfHi j)
def cfBad (n1 : ByteArray) : Bool := decide (hsE n1 ≠ 0) || (decide (hsK n1 ≠ n1) || decide (200 < (hsK n1).size))
def cfE (n0 n1 : ByteArray) (L : List Int) : Int :=
  if tokenB n0 = false ∨ 100 < n0.size then 6 else if n1.size ≠ 0 ∧ cfBad n1 = true then 13 else if cfIn L = false then 5 else 0
theorem cfIn_no {L : List Int} {k : Nat} (hk : k < 16) (h : L.getD k 0 < cfLo k ∨ cfHi k < L.getD k 0) : cfIn L = false := by
  unfold cfIn
  rw [List.all_eq_false]
  refine ⟨k, List.mem_range.2 hk, ?_⟩
  show ¬ (decide (cfLo k ≤ L.getD k 0) && decide (L.getD k 0 ≤ cfHi k)) = true
  rw [Bool.and_eq_true, decide_eq_true_eq, decide_eq_true_eq]
  omega
theorem cfIn_yes {L : List Int} (h : ∀ k, k < 16 → cfLo k ≤ L.getD k 0 ∧ L.getD k 0 ≤ cfHi k) : cfIn L = true := by
  unfold cfIn
  rw [List.all_eq_true]
  intro k hk
  have := h k (List.mem_range.1 hk)
  rw [Bool.and_eq_true, decide_eq_true_eq, decide_eq_true_eq]
  exact this
def cfBO : Array Value := #[.int .i64 0, .int .i64 1, .int .i64 0, .int .i64 1, .int .i64 0, .int .i64 1, .int .i64 0, .int .i64 1, .int .i64 1, .int .i64 65536, .int .i64 1, .int .i64 65536, .int .i64 0, .int .i64 100, .int .i64 0, .int .i64 1073741824, .int .i64 1, .int .i64 16, .int .i64 1, .int .i64 16, .int .i64 0, .int .i64 1, .int .i64 16, .int .i64 65536, .int .i64 1, .int .i64 1000, .int .i64 3, .int .i64 4096, .int .i64 0, .int .i64 1048576, .int .i64 0, .int .i64 1]
theorem cfBO_size : cfBO.size = 32 := rfl
theorem cfBO_at : ∀ k, k < 16 → cfBO[k * 2]? = some (.int .i64 (cfLo k)) ∧ cfBO[k * 2 + 1]? = some (.int .i64 (cfHi k))
  | 0, _ => ⟨rfl, rfl⟩
  | 1, _ => ⟨rfl, rfl⟩
  | 2, _ => ⟨rfl, rfl⟩
  | 3, _ => ⟨rfl, rfl⟩
  | 4, _ => ⟨rfl, rfl⟩
  | 5, _ => ⟨rfl, rfl⟩
  | 6, _ => ⟨rfl, rfl⟩
  | 7, _ => ⟨rfl, rfl⟩
  | 8, _ => ⟨rfl, rfl⟩
  | 9, _ => ⟨rfl, rfl⟩
  | 10, _ => ⟨rfl, rfl⟩
  | 11, _ => ⟨rfl, rfl⟩
  | 12, _ => ⟨rfl, rfl⟩
  | 13, _ => ⟨rfl, rfl⟩
  | 14, _ => ⟨rfl, rfl⟩
  | 15, _ => ⟨rfl, rfl⟩
  | k + 16, h => by omega
def cfLE : Array Value := #[.int .i64 0, .int .i64 0, .int .i64 0, .int .i64 0, .int .i64 1, .int .i64 1, .int .i64 0, .int .i64 0, .int .i64 1, .int .i64 1, .int .i64 0, .int .i64 16, .int .i64 1, .int .i64 3, .int .i64 0, .int .i64 0]
def cfMO : Array Value := #[.int .i64 1, .int .i64 1, .int .i64 1, .int .i64 1, .int .i64 65536, .int .i64 65536, .int .i64 100, .int .i64 1073741824, .int .i64 16, .int .i64 16, .int .i64 1, .int .i64 65536, .int .i64 1000, .int .i64 4096, .int .i64 1048576, .int .i64 1]
theorem cfLM_at : ∀ k, k < 16 → cfLE[k]? = some (.int .i64 (cfLo k)) ∧ cfMO[k]? = some (.int .i64 (cfHi k))
  | 0, _ => ⟨rfl, rfl⟩
  | 1, _ => ⟨rfl, rfl⟩
  | 2, _ => ⟨rfl, rfl⟩
  | 3, _ => ⟨rfl, rfl⟩
  | 4, _ => ⟨rfl, rfl⟩
  | 5, _ => ⟨rfl, rfl⟩
  | 6, _ => ⟨rfl, rfl⟩
  | 7, _ => ⟨rfl, rfl⟩
  | 8, _ => ⟨rfl, rfl⟩
  | 9, _ => ⟨rfl, rfl⟩
  | 10, _ => ⟨rfl, rfl⟩
  | 11, _ => ⟨rfl, rfl⟩
  | 12, _ => ⟨rfl, rfl⟩
  | 13, _ => ⟨rfl, rfl⟩
  | 14, _ => ⟨rfl, rfl⟩
  | 15, _ => ⟨rfl, rfl⟩
  | k + 16, h => by omega
def cfNU (L : List Int) : Array Value := (L.map (Value.int .i64)).toArray
theorem cfNU_at (L : List Int) (k : Nat) (h : k < L.length) : (cfNU L)[k]? = some (.int .i64 (L.getD k 0)) := by
  unfold cfNU
  simp [List.getElem?_map, List.getElem?_eq_getElem h, List.getD_eq_getElem?_getD]
theorem cf_tl {a b : ByteArray} : a.toList = b.toList ↔ a = b := by
  rw [ByteArray.toList_eq, ByteArray.toList_eq]
  constructor
  · intro h
    cases a; cases b
    simp at h
    rw [h]
  · rintro rfl; rfl
theorem cf_tlb {a b : ByteArray} (h : a ≠ b) : (a.toList == b.toList) = false := by rw [beq_eq_false_iff_ne]; exact fun e => h (cf_tl.1 e)
theorem cf_emp {a : ByteArray} (h : a.size ≠ 0) : a.toList.isEmpty = false ∧ a.toList ≠ [] := by
  have : a.toList ≠ [] := by
    intro e
    rw [ByteArray.toList_eq] at e
    rw [ba_size, e] at h
    exact h rfl
  exact ⟨by simpa using this, this⟩
theorem cf_new (w : World) (o : Obj) (k : Nat) (h : w.heap.size = k) : (w.alloc o).heap[k]? = some o := by subst h; exact heap_alloc_new w o
theorem below_alF {B : Nat} {w w' : World} (h : Below B w w') (hB : B ≤ w'.heap.size) (o : Obj) : Below B w (w'.alloc o) := h.alloc hB o
theorem below_setF {B : Nat} {w w' : World} (h : Below B w w') (b o : Nat) (hb : B ≤ b) (v : Value) : Below B w (w'.setCell ⟨b, o, none⟩ v) := h.setCell (p := ⟨b, o, none⟩) hb v
end Go.Proofs.YtggnnaafkekihaaDoor
