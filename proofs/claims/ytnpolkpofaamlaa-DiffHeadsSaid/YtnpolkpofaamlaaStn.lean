/- First lines (layer 15): a request's line read, the document's; two first lines the same. -/
import Derived.Test.YtnpolkpofaamlaaStm
import Derived.Test.YtnpolkpofaamlaaKeeps
import Derived.Deep.QuietTactic
import Derived.BigQuiet
namespace Go.Proofs.Ytnpolkpofaamlaa
open Go.RowKit
set_option linter.unusedVariables false
set_option linter.unusedSimpArgs false

def nvS (l : List Nat) : List Value := l.map fun (n : Nat) => Value.int .i64 (n : Int)
theorem nvS_app (l : List Nat) (n : Nat) : nvS (l ++ [n]) = nvS l ++ [.int .i64 (n : Int)] := by simp [nvS]
theorem nvS_len (l : List Nat) : (nvS l).length = l.length := by simp [nvS]
theorem Try.infoIS : (Try.prog.info? 3).map (fun i => (i.zero, i.size, i.bytes)) = some (some (.int .i64 0), 1, 8) := by kernel_rfl
theorem own_formS {w : World} {B : Nat} {e : TypeId} {sz n : Nat} {v : Value} {xs : List Value} (h : w.ownsRow B e sz v n xs) : ∃ a c, v = .slice a n c := by
  rcases h.2 with ⟨h1, h2⟩ | ⟨g, cap, cur, h1, -⟩
  · exact ⟨none, 0, by rw [h1, h2]⟩
  · exact ⟨_, cap, h1⟩
theorem own_two {w : World} {B : Nat} {e : TypeId} {a : Option Addr} {c : Nat} {x y : Nat} (h : w.ownsRow B e 1 (.slice a 2 c) 2 (nvS [x, y])) : ∃ g, a = some ⟨g, 0, none⟩ ∧ w.cell? ⟨g, 0, none⟩ = some (.int .i64 (x : Int)) ∧ w.cell? ⟨g, 1, none⟩ = some (.int .i64 (y : Int)) := by
  rcases h.2 with ⟨h1, h2⟩ | ⟨g, cap, cur, h1, -⟩
  · omega
  · cases h1
    have c0 := h.cells (g := g) rfl 0 _ rfl
    have c1 := h.cells (g := g) rfl 1 _ rfl
    rw [Addr.add_lit] at c0 c1
    exact ⟨g, rfl, c0, c1⟩
theorem grownS {B : Nat} {w w' : World} {o : Obj} {v : Value} {e : TypeId} {sz n : Nat} {xs : List Value} (hown : w.ownsRow B e sz v n xs) (hB : B ≤ w.heap.size) (h : (w.alloc o).grownBy w' v.ownBlock) : Below B w w' :=
  ((Below.refl B w).alloc hB o).grown h (by simp; omega) fun k hk => (hown.lt k hk).1
end Go.Proofs.Ytnpolkpofaamlaa
