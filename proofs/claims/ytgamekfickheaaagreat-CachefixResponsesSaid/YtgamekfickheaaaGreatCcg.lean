/- What is said to caches (layer 21): lists of directives that are the same. · What is said to caches (layer 21): the text of directives, as plain functions; the document's Text. · What is said to caches (layer 21): Text, the program's. -/
import Derived.Test.YtgamekfickheaaaGreatCcc
import Derived.Deep.QuietTactic
import Derived.BigQuiet
import Derived.Test.YtgamekfickheaaaGreatHdf
namespace Go.Proofs.YtgamekfickheaaaGreat
open Go.RowKit
set_option linter.unusedVariables false
set_option linter.unusedSimpArgs false

theorem below_drewD (w : World) (m : Nat) : Below w.heap.size w (w.drewN m) := below_drewNC w m
end Go.Proofs.YtgamekfickheaaaGreat
namespace Go.Proofs.YtgamekfickheaaaGreat
open Go.RowKit
set_option linter.unusedVariables false
set_option linter.unusedSimpArgs false

def dtOk (d : Dir) : Bool := quoteOk d.2.1 && (tokenB d.1 && (d.2.2 || decide (d.2.1.size = 0)))
def dtT (d : Dir) : ByteArray := if d.2.2 = true then d.1 ++ ⟨#[61]⟩ ++ quoteS d.2.1 else d.1
def txOk (l : List Dir) : Bool := l.all dtOk
/-- P21.1: their text. -/
def txt (l : List Dir) : ByteArray := if txOk l = true then hJoin (l.map dtT) else ⟨#[]⟩
def DirSm (d : Dir) : Prop := d.1.size ≤ 1000 ∧ d.2.1.size ≤ 1000
def txP (l : List Dir) (k : Nat) : List ByteArray := (l.take k).map dtT
theorem txP_step {l : List Dir} {k : Nat} (h : k < l.length) : txP l (k + 1) = txP l k ++ [dtT l[k]] := by
  unfold txP
  rw [List.take_succ_eq_append_getElem h, List.map_append]
  rfl
theorem txP_len (l : List Dir) (k : Nat) : (txP l k).length ≤ k := by unfold txP; rw [List.length_map, List.length_take]; omega
def okT2 (l : List Dir) (k : Nat) : Prop := ∀ (j : Nat) (h : j < l.length), j < k → dtOk l[j] = true
theorem tx_hit {l : List Dir} {k : Nat} (h : k < l.length) (hf : dtOk l[k] = false) : txOk l = false ∧ txt l = ⟨#[]⟩ := by
  have h1 : txOk l = false := List.all_eq_false.2 ⟨_, List.getElem_mem h, by simp [hf]⟩
  exact ⟨h1, by unfold txt; rw [h1]; rfl⟩
theorem tx_end {l : List Dir} {k : Nat} (hk : l.length ≤ k) (h : okT2 l k) : txOk l = true ∧ txt l = hJoin (txP l k) := by
  have h1 : txOk l = true := List.all_eq_true.2 fun x hx => by
    obtain ⟨j, hj, rfl⟩ := List.getElem_of_mem hx
    exact h j hj (by omega)
  exact ⟨h1, by unfold txt txP; rw [h1, List.take_of_length_le hk]; rfl⟩
theorem dtT_size {d : Dir} (h : DirSm d) : (dtT d).size ≤ 10000 := by
  have h2 := quoteS_len d.2.1
  obtain ⟨h3, h4⟩ := h
  unfold dtT
  split
  · rw [ByteArray.size_append, ByteArray.size_append]
    have : (⟨#[61]⟩ : ByteArray).size = 1 := rfl
    omega
  · omega
theorem txP_sm {l : List Dir} (h : ∀ d ∈ l, DirSm d) (k : Nat) : ∀ s ∈ txP l k, s.size ≤ 100000 := fun s hs => by
  unfold txP at hs
  obtain ⟨d, hd, rfl⟩ := List.mem_map.1 hs
  have := dtT_size (h d (List.mem_of_mem_take hd))
  omega
theorem dtOk_of (x y : ByteArray) (b : Bool) : dtOk (x, y, b) = (quoteOk y && (tokenB x && (b || decide (y.size = 0)))) := rfl
end Go.Proofs.YtgamekfickheaaaGreat
namespace Go.Proofs.YtgamekfickheaaaGreat
open Go.RowKit
set_option linter.unusedVariables false
set_option linter.unusedSimpArgs false

end Go.Proofs.YtgamekfickheaaaGreat
