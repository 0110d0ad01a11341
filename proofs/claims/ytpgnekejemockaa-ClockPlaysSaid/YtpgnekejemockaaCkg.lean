/- Who is due (layer 41): an own row of ints, as the sort sees it (bin/mkckg.py). -/
import Derived.Test.YtpgnekejemockaaCkf
import Derived.Test.YtpgnekejemockaaShs
namespace Go.Proofs.Ytpgnekejemockaa
open Go.RowKit Go.Shelf Go.Lib Go.Sort
set_option linter.unusedVariables false
set_option linter.unusedSimpArgs false

def wiL (d : Array WInt) : List Value := d.toList.map fun x => .int .i64 x.1
theorem own_holds {w : World} {B g cap : Nat} {e : TypeId} {d : Array WInt} (h : w.ownsRow B e 1 (.slice (some ⟨g, 0, none⟩) d.size cap) d.size (wiL d)) : Holds (fun x : WInt => .int .i64 x.1) w g 0 d := by
  intro j hj
  rcases h.2 with ⟨h2, _⟩ | ⟨g', cap', cur, h2, h3, hg, h4, h5, h6, h7⟩
  · cases h2
  · cases h2
    have e1 := congrArg (fun l => l[j]?) h7
    simp only [List.getElem?_take, Array.getElem?_toList, wiL, List.getElem?_map] at e1
    rw [if_pos (by omega)] at e1
    have e2 : d[j]? = some d[j]! := by rw [getElem!_pos d j hj]; exact Array.getElem?_eq_getElem hj
    rw [e2] at e1
    exact ⟨by rw [Nat.zero_add]; exact blk_cell hg e1, blk_free hg⟩
theorem holds_own {w : World} {B g cap n : Nat} {e : TypeId} {d d' : Array WInt} {os : Array Obj} (h : w.ownsRow B e 1 (.slice (some ⟨g, 0, none⟩) d.size cap) d.size (wiL d)) (hs : d'.size = d.size) :
    (sortWorld (fun x : WInt => .int .i64 x.1) w g 0 n d' os).ownsRow B e 1 (.slice (some ⟨g, 0, none⟩) d.size cap) d.size (wiL d') := by
  refine ⟨by simp [wiL, hs], ?_⟩
  rcases h.2 with ⟨h2, _⟩ | ⟨g', cap', cur, h2, h3, hg, h4, h5, h6, h7⟩
  · cases h2
  · cases h2
    have hh : (sortWorld (fun x : WInt => .int .i64 x.1) w g 0 n d' os).heap = w.heap.modify g (onCells (putCells (fun x : WInt => .int .i64 x.1) 0 d')) ++ os := rfl
    refine .inr ⟨g, cap, putCells (fun x : WInt => .int .i64 x.1) 0 d' cur, rfl, h3, ?_, h4, h5, by unfold putCells; rw [Array.size_mapIdx]; exact h6, ?_⟩
    · rw [hh, Array.getElem?_append_left (by rw [Array.size_modify]; exact blk_lt hg), Array.getElem?_modify, if_pos rfl, hg]
      rfl
    · refine List.ext_getElem? fun j => ?_
      have e1 := congrArg (fun l => l[j]?) h7
      simp only [List.getElem?_take, Array.getElem?_toList, wiL, List.getElem?_map] at e1 ⊢
      by_cases hj : j < d.size
      · rw [if_pos (by omega)] at e1 ⊢
        have e2 : d[j]? = some d[j]! := by rw [getElem!_pos d j hj]; exact Array.getElem?_eq_getElem hj
        have e3 : d'[j]? = some d'[j]! := by rw [getElem!_pos d' j (by omega)]; exact Array.getElem?_eq_getElem (by omega)
        rw [e2] at e1
        unfold putCells
        rw [Array.getElem?_mapIdx, e1, e3]
        simp [hs, hj]
      · rw [if_neg (by omega), Array.getElem?_eq_none (by omega)]
        rfl
theorem sortW_kpt {α : Type} [Inhabited α] (enc : α → Value) (w : World) (blk off n : Nat) (dk : Array α) (os : Array Obj) : Kpt (fun k => k ≠ blk) w (sortWorld enc w blk off n dk os) :=
  ⟨rfl, rfl, rfl, by
    have e : (sortWorld enc w blk off n dk os).heap = w.heap.modify blk (onCells (putCells enc off dk)) ++ os := rfl
    rw [e, Array.size_append, Array.size_modify]
    omega, fun k hk hne => sortW_block enc w blk off n dk os hk hne⟩
theorem csort_none (p : Option Addr) (cap : Nat) (fv : Value) (w : World) : Calls Try.prog 38 #[.slice p 0 cap, fv] w fun e w' => e = .returned (.tuple #[]) ∧ w' = w := AnyF.slices_SortFunc_none Ytpgnekejemockaa.sortI0 p cap fv w
end Go.Proofs.Ytpgnekejemockaa
