/- Fields of one connection (layer 29): which names are taken out; plain functions, closures. -/
import Derived.Test.YtkfpioadimkogaaGreatDoorCne
import Derived.Maps.AppendAt
namespace Go.Proofs.YtkfpioadimkogaaGreatDoor
open Go.RowKit
set_option linter.unusedVariables false
set_option linter.unusedSimpArgs false

def hopOwn : List ByteArray := [⟨#[67, 111, 110, 110, 101, 99, 116, 105, 111, 110]⟩, ⟨#[75, 101, 101, 112, 45, 65, 108, 105, 118, 101]⟩, ⟨#[80, 114, 111, 120, 121, 45, 67, 111, 110, 110, 101, 99, 116, 105, 111, 110]⟩, ⟨#[84, 69]⟩, ⟨#[84, 114, 97, 105, 108, 101, 114]⟩, ⟨#[84, 114, 97, 110, 115, 102, 101, 114, 45, 69, 110, 99, 111, 100, 105, 110, 103]⟩, ⟨#[85, 112, 103, 114, 97, 100, 101]⟩]
def hopNo : List ByteArray := [⟨#[72, 111, 115, 116]⟩, ⟨#[67, 111, 110, 116, 101, 110, 116, 45, 76, 101, 110, 103, 116, 104]⟩, ⟨#[86, 105, 97]⟩]
/-- May nobody take fields of that name out? -/
def noH (x : ByteArray) : Bool := hopNo.any fun n => foldB n x
def hopT (W : List ByteArray) (k : Nat) : List ByteArray := hopOwn ++ (W.take k).filter fun x => !noH x
/-- P29.1. -/
def hopN (v : ByteArray) : List ByteArray := hopOwn ++ (conW v).filter fun x => !noH x
theorem hopT_zero (W : List ByteArray) : hopT W 0 = hopOwn := by simp [hopT]
theorem hopT_step {W : List ByteArray} {k : Nat} (h : k < W.length) : hopT W (k + 1) = hopT W k ++ (if noH W[k] = true then [] else [W[k]]) := by
  unfold hopT
  rw [List.take_succ_eq_append_getElem h, List.filter_append, List.append_assoc]
  congr 2
  cases hf : noH W[k] <;> simp [hf]
theorem hopT_len (W : List ByteArray) (k : Nat) : (hopT W k).length ≤ 7 + W.length := by
  unfold hopT
  have h1 := List.length_filter_le (fun x : ByteArray => !noH x) (W.take k)
  have h2 : (W.take k).length ≤ W.length := by rw [List.length_take]; omega
  rw [List.length_append]
  show 7 + _ ≤ _
  omega
def tHasN (x : ByteArray) (ns : List ByteArray) : Bool := ns.any fun n => foldB n x
theorem tHasN_take {x : ByteArray} {ns : List ByteArray} {k : Nat} (h : k < ns.length) : tHasN x (ns.take (k + 1)) = (tHasN x (ns.take k) || foldB ns[k] x) := by
  unfold tHasN
  rw [List.take_succ_eq_append_getElem h, List.any_append]
  simp
theorem tHasN_hit {x : ByteArray} {ns : List ByteArray} {k : Nat} (h : k < ns.length) (hf : foldB ns[k] x = true) : tHasN x ns = true := List.any_eq_true.2 ⟨_, List.getElem_mem h, hf⟩
theorem svH_one (l : List ByteArray) : ∀ u ∈ svH l, u.oneCell' = true := by
  rw [svH_map]
  intro u hu
  rw [List.mem_map] at hu
  obtain ⟨s, _, rfl⟩ := hu
  rfl
/-- Texts appended behind a row of the call's own. -/
theorem app_strs {P : Program} {wr : World} {ops : Array Oper} {rest : List Oper} {o : Oper} {a : Act} {Q : Exit → Act → World → Prop} (hgd : o.guard = none) (s x : Operand) (t e : TypeId)
    (ho : o.op = .call { callee := .builtin .append, args := #[s, x], argTypes := #[t, t] }) (ht : P.underlying t = some (.slice e)) (z : Value)
    (hi : (P.info? e).map (fun i => (i.zero, i.size, i.bytes)) = some (some z, 1, 16)) (hz : z.cells.size = 1) (B : Nat) (v : Value) (n : Nat) (xs : List Value) (hs : a.eval s = v) (hown : wr.ownsRow B e 1 v n xs)
    (g off c : Nat) (l : List ByteArray) (hx : a.eval x = .slice (some ⟨g, off, none⟩) l.length c) (hc : ∀ (j : Nat) (h : j < l.length), wr.cell? ⟨g, off + j, none⟩ = some (.string l[j])) (hlen : (n + l.length) * 16 ≤ 140737488355328) (hm : n + l.length ≤ maxLen) (hB : B ≤ wr.heap.size)
    (h : ∀ v' w', w'.ownsRow B e 1 v' (n + l.length) (xs ++ svH l) → wr.grownBy w' v.ownBlock → wpList P ops Q rest (a.put o.dst v') w') :
    wpList P ops Q (o :: rest) a wr := by
  obtain ⟨i0, hi, hz0, hz1, hz2⟩ := info_parts hi
  refine wpList_append_own_at _ hgd s x t ho B e i0 z 1 16 ht hi hz0 hz1 hz2 hz (by omega) v n xs hs hown ⟨g, off, none⟩ l.length c (svH l) hx (by rw [svH_map, List.length_map]; omega) ?_ (svH_one l) hm hlen hB fun v' w' g1 g2 _ _ => h v' w' g1 g2
  intro j u hj
  rw [svH_map, List.getElem?_map] at hj
  rw [Addr.add_lit]
  by_cases hjl : j < l.length
  · rw [List.getElem?_eq_getElem hjl] at hj
    cases hj
    exact hc j hjl
  · rw [List.getElem?_eq_none (by omega)] at hj
    cases hj
end Go.Proofs.YtkfpioadimkogaaGreatDoor
