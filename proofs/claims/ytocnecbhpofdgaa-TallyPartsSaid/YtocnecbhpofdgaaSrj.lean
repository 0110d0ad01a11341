/- A stable sort at abutment/tally.Row: of an own row, and of none (bin/mkssc.py). -/
import Derived.Test.YtocnecbhpofdgaaSrh
import Derived.Test.YtocnecbhpofdgaaGb
import Derived.Shelf.SlSortCmp.NoneTotal
namespace Go.Proofs.Ytocnecbhpofdgaa
open Go.RowKit Go.Shelf Go.Lib Go.Sort
set_option linter.unusedVariables false
set_option linter.unusedSimpArgs false


theorem flatK_listSrw (d : Array Srw) : (flatK encSrw 2 d).toList = d.toList.flatMap encSrw := by
  refine List.ext_getElem? fun t => ?_
  have hl : (d.toList.flatMap encSrw).length = d.size * 2 := by rw [flat_len (sz := 2) (fun _ => rfl), Array.length_toList]
  by_cases ht : t < d.size * 2
  · have hj : t / 2 < d.toList.length := by rw [Array.length_toList]; omega
    have h1 := flat_at (f := encSrw) (sz := 2) (fun _ => rfl) d.toList (t / 2) hj (t % 2) (by omega)
    rw [show t / 2 * 2 + t % 2 = t by omega] at h1
    have h0 : (flatK encSrw 2 d)[t]? = some ((flatK encSrw 2 d)[t]'(by rw [size_flatK]; exact ht)) := Array.getElem?_eq_getElem (by rw [size_flatK]; exact ht)
    have hd : d.toList[t / 2] = d[t / 2]! := by rw [getElem!_pos d (t / 2) (by omega), Array.getElem_toList]
    rw [h1, Array.getElem?_toList, h0, hd]
    have h2 := get_flatK encSrw 2 d t ht
    rw [getElem!_pos (flatK encSrw 2 d) t (by rw [size_flatK]; exact ht)] at h2
    have h3 : t % 2 < (encSrw d[t / 2]!).length := by show t % 2 < 2; omega
    rw [h2, getElem!_pos (encSrw d[t / 2]!) (t % 2) h3, List.getElem?_eq_getElem h3]
  · rw [List.getElem?_eq_none (l := (flatK encSrw 2 d).toList) (by rw [Array.length_toList, size_flatK]; omega), List.getElem?_eq_none (by rw [hl]; omega)]
theorem sk_heapSrw (w : World) (g n : Nat) (d : Array Srw) (os : Array Obj) : (sortWorldK encSrw 2 w g 0 n d os).heap = w.heap.modify g (onCells (putCells id 0 (flatK encSrw 2 d))) ++ os := rfl
theorem sk_kptSrw {w0 w : World} {g : Nat} {d : Array Srw} (h : SWSrw w0 g d w) : w.os = w0.os ∧ w.tape = w0.tape ∧ w.output = w0.output ∧ w0.heap.size ≤ w.heap.size ∧ ∀ k, k < w0.heap.size → k ≠ g → w.heap[k]? = w0.heap[k]? := by
  obtain ⟨n, os, rfl⟩ := h
  refine ⟨rfl, rfl, rfl, ?_, fun k hk hne => ?_⟩
  · rw [sk_heapSrw, Array.size_append, Array.size_modify]; omega
  · rw [sk_heapSrw, Array.getElem?_append_left (by rw [Array.size_modify]; exact hk), Array.getElem?_modify, if_neg (fun e => hne e.symm)]
theorem sk_rwSrw {w : World} {B g cap : Nat} {e : TypeId} {d : Array Srw} (h : w.ownsRow B e 2 (.slice (some ⟨g, 0, none⟩) d.size cap) d.size (d.toList.flatMap encSrw)) : RwSrw w g d := by
  refine ⟨fun _ => rfl, fun x v hv => ?_, ?_, (h.lt g rfl).2⟩
  · simp [encSrw] at hv
    rcases hv with rfl | rfl <;> rfl
  · intro j hj
    rw [size_flatK] at hj
    rcases h.2 with ⟨h2, _⟩ | ⟨g', cap', cur, h2, h3, hg, h4, h5, h6, h7⟩
    · cases h2
    · cases h2
      have e1 := congrArg (fun l => l[j]?) h7
      rw [← flatK_listSrw] at e1
      simp only [List.getElem?_take, Array.getElem?_toList] at e1
      have e2 : (flatK encSrw 2 d)[j]? = some ((flatK encSrw 2 d)[j]'(by rw [size_flatK]; exact hj)) := Array.getElem?_eq_getElem (by rw [size_flatK]; exact hj)
      rw [if_pos hj, e2] at e1
      refine ⟨?_, blk_free hg⟩
      rw [Nat.zero_add, getElem!_pos (flatK encSrw 2 d) j (by rw [size_flatK]; exact hj)]
      exact blk_cell hg e1
theorem sk_ownSrw {w w' : World} {B g cap : Nat} {e : TypeId} {d d' : Array Srw} (h : w.ownsRow B e 2 (.slice (some ⟨g, 0, none⟩) d.size cap) d.size (d.toList.flatMap encSrw)) (hS : SWSrw w g d' w') (hs : d'.size = d.size) :
    w'.ownsRow B e 2 (.slice (some ⟨g, 0, none⟩) d.size cap) d.size (d'.toList.flatMap encSrw) := by
  obtain ⟨n, os, rfl⟩ := hS
  refine ⟨by rw [flat_len (sz := 2) (fun _ => rfl), Array.length_toList, hs], ?_⟩
  rcases h.2 with ⟨h2, _⟩ | ⟨g', cap', cur, h2, h3, hg, h4, h5, h6, h7⟩
  · cases h2
  · cases h2
    refine .inr ⟨g, cap, putCells id 0 (flatK encSrw 2 d') cur, rfl, h3, ?_, h4, h5, by unfold putCells; rw [Array.size_mapIdx]; exact h6, ?_⟩
    · rw [sk_heapSrw, Array.getElem?_append_left (by rw [Array.size_modify]; exact blk_lt hg), Array.getElem?_modify, if_pos rfl, hg]
      rfl
    · rw [← flatK_listSrw]
      refine List.ext_getElem? fun j => ?_
      simp only [List.getElem?_take, Array.getElem?_toList]
      by_cases hj : j < d.size * 2
      · have hcs : d.size * 2 ≤ cur.size := by rw [h6]; exact Nat.mul_le_mul_right _ h4
        have e2 : (flatK encSrw 2 d')[j]? = some ((flatK encSrw 2 d')[j]'(by rw [size_flatK]; omega)) := Array.getElem?_eq_getElem (by rw [size_flatK]; omega)
        have e3 : cur[j]? = some (cur[j]'(by omega)) := Array.getElem?_eq_getElem (by omega)
        rw [if_pos hj, e2]
        unfold putCells
        rw [Array.getElem?_mapIdx, e3]
        simp [size_flatK, hs, hj]
      · have e2 : (flatK encSrw 2 d')[j]? = none := Array.getElem?_eq_none (by rw [size_flatK]; omega)
        rw [if_neg hj, e2]
set_option maxRecDepth 100000 in
set_option maxHeartbeats 1000000 in
theorem ss_noneSrw (p : Option Addr) (cap : Nat) (w : World) : Calls Try.prog 60 #[.slice p 0 cap, .func (.func 61) #[] #[]] w fun e w' => e = .returned (.tuple #[]) ∧ w' = w := by
  have HC := Kp.mk (show ∀ w, Calls Try.prog 87 #[.slice p 0 cap, .int .i64 0, .int .i64 0, .func (.func 61) #[] #[]] w fun e w' => e = .returned (.tuple #[]) ∧ w' = w from fun w => AnyF.insertionSortCmpFunc_none Ytocnecbhpofdgaa.insSrw p cap _ w)
  have HS := Kp.mk (show Calls Try.prog 75 #[.slice p 0 cap, .int .i64 0, .func (.func 61) #[] #[]] w fun e w' => e = .returned (.tuple #[]) ∧ w' = w from by
    go_enter Try.func75, Try.ntmps75
    go_wp2_with fail
    go_loopw [7, 8] (fun va vb wr => va = .int .i64 0 ∧ vb = .int .i64 20 ∧ wr = w) (fun _ _ _ => 0)
    case atStart => exact ⟨rfl, rfl, rfl⟩
    case round =>
      obtain ⟨rfl, rfl, rfl⟩ := hrel
      go_wp2_with fail
      refine (HC.out _).mono ?_
      rintro e w2 ⟨rfl, rfl⟩
      go_wp2_with fail
      go_loopw [6] (fun vs wr => vs = .int .i64 20 ∧ wr = w2) (fun _ _ => 0)
      case atStart => exact ⟨rfl, rfl⟩
      case round =>
        obtain ⟨rfl, rfl⟩ := hrel
        go_wp2_with fail
        go_end0
        exact ⟨rfl, rfl⟩)
  go_enter Try.func60, Try.ntmps60
  go_wp2_with fail
  refine HS.out.mono ?_
  rintro e w2 ⟨rfl, rfl⟩
  go_wp2_with fail
  go_end0
  exact ⟨rfl, rfl⟩
end Go.Proofs.Ytocnecbhpofdgaa
