/- Fields that came in: a field, a list of them. · Fields in their order (layer 10): plain functions; rows of the call's own; Is, All, Count. · Lists of fields, or of texts, that are the same (layers 1, 9, 10). · Fields without some names (layer 10), on both sides. · The first field of a name (layer 10), on both sides. -/
import Derived.Test.YtcbfhlnnfnpkdaaGreatDoorGb
import Derived.Test.YtcbfhlnnfnpkdaaGreatDoorProg
import Derived.Test.YtcbfhlnnfnpkdaaGreatDoorKeeps
import Derived.Test.YtcbfhlnnfnpkdaaGreatDoorQs
namespace Go.Proofs.YtcbfhlnnfnpkdaaGreatDoor
open Go.RowKit
set_option linter.unusedVariables false
set_option linter.unusedSimpArgs false

/-- A field: its name, its value. -/
abbrev Fld := ByteArray × ByteArray
def fldC (p : Fld) : List Value := [.string p.1, .string p.2]
abbrev RdF (w : World) (v : Value) (l : List Fld) : Prop := RdL fldC 2 w v l
def FldOk (p : Fld) : Prop := p.1.size ≤ maxLen ∧ p.2.size ≤ maxLen
theorem fld_of {P : Program} {w : World} {t ts : TypeId} {fs : Array Field} {E : List Value} (ht : P.underlying t = some (.struct fs)) (hs : P.underlying ts = some .string) (hc : P.cellsOf t = 2) (hc1 : P.cellsOf ts = 1)
    (h0 : ∃ f, fs[0]? = some f ∧ f.type = ts ∧ f.offset = 0) (h1 : ∃ f, fs[1]? = some f ∧ f.type = ts ∧ f.offset = 1) (h : Rdb P w t E) : ∃ p : Fld, E = fldC p ∧ FldOk p := by
  obtain ⟨hl, hf⟩ := h.struct ht
  obtain ⟨f0, e0, t0, o0⟩ := h0
  obtain ⟨f1, e1, t1, o1⟩ := h1
  have g0 := hf 0 f0 e0
  have g1 := hf 1 f1 e1
  rw [t0, o0, hc1] at g0
  rw [t1, o1, hc1] at g1
  obtain ⟨s0, k0, z0⟩ := g0.str hs
  obtain ⟨s1, k1, z1⟩ := g1.str hs
  rw [hc] at hl
  match E, hl with
  | [x, y], _ =>
    simp at k0 k1
    exact ⟨(s0, s1), by simp [fldC, k0, k1], z0, z1⟩
theorem Tryz.fcellsFld : Tryz.prog.cellsOf 67 = 2 := by kernel_rfl
theorem Tryz.fcellsFs : Tryz.prog.cellsOf 9 = 1 := by kernel_rfl
theorem fld_arg (v1 : Value) (w : World) (h1 : Arg Tryz.prog w 67 v1) : ∃ n v : ByteArray, v1 = .agg #[.string n, .string v] ∧ n.size ≤ maxLen ∧ v.size ≤ maxLen := by
  obtain ⟨cs, rfl, hr⟩ := h1.struct Tryz.underlying67
  obtain ⟨p, rfl, hp⟩ := fld_of Tryz.underlying67 Tryz.underlying9 Tryz.fcellsFld Tryz.fcellsFs ⟨_, rfl, rfl, rfl⟩ ⟨_, rfl, rfl, rfl⟩ hr
  exact ⟨p.1, p.2, rfl, hp.1, hp.2⟩
end Go.Proofs.YtcbfhlnnfnpkdaaGreatDoor
namespace Go.Proofs.YtcbfhlnnfnpkdaaGreatDoor
open Go.RowKit
set_option linter.unusedVariables false
set_option linter.unusedSimpArgs false

def svH (l : List ByteArray) : List Value := l.flatMap strC
theorem svH_snoc (l : List ByteArray) (s : ByteArray) : svH (l ++ [s]) = svH l ++ [.string s] := by simp [svH, strC]
def fvH (l : List Fld) : List Value := l.flatMap fldC
theorem fvH_snoc (l : List Fld) (p : Fld) : fvH (l ++ [p]) = fvH l ++ [.string p.1, .string p.2] := by simp [fvH, fldC]
theorem Tryz.infoSH : (Tryz.prog.info? 9).map (fun i => (i.zero, i.size, i.bytes)) = some (some (.string ByteArray.empty), 1, 16) := by kernel_rfl
theorem Tryz.infoFH : (Tryz.prog.info? 67).map (fun i => (i.zero, i.size, i.bytes)) = some (some (.agg #[.string ByteArray.empty, .string ByteArray.empty]), 2, 32) := by kernel_rfl
theorem own_bel {w w' : World} {B : Nat} {e : TypeId} {sz n : Nat} {v : Value} {xs : List Value} (h : w.ownsRow B e sz v n xs) (hb : Below w.heap.size w w') : w'.ownsRow B e sz v n xs := by
  refine ⟨h.1, ?_⟩
  rcases h.2 with h | ⟨g, cap, cur, rfl, hg, hh, rest⟩
  · exact .inl h
  · exact .inr ⟨g, cap, cur, rfl, hg, (hb.block g (blk_lt hh)).trans hh, rest⟩
theorem own_lenH {w : World} {B : Nat} {e : TypeId} {sz n : Nat} {v : Value} {xs : List Value} (h : w.ownsRow B e sz v n xs) : ∃ a c, v = .slice a n c := by
  rcases h.2 with ⟨rfl, rfl⟩ | ⟨g, cap, cur, rfl, _⟩
  · exact ⟨_, _, rfl⟩
  · exact ⟨_, _, rfl⟩
theorem grown_bel {B : Nat} {w w' : World} {o : Obj} {v : Value} {e : TypeId} {sz n : Nat} {xs : List Value} (hown : w.ownsRow B e sz v n xs) (hB : B ≤ w.heap.size) (h : (w.alloc o).grownBy w' v.ownBlock) : Below B w w' :=
  ((Below.refl B w).alloc hB o).grown h (by simp; omega) fun k hk => (hown.lt k hk).1
/-- It tells texts, in a row of its own. -/
def RetS (l : List ByteArray) (w : World) (e : Ending) (w' : World) : Prop := ∃ v, e = .returned v ∧ w'.ownsRow w.heap.size 9 1 v l.length (svH l) ∧ Below w.heap.size w w'
def RetF (l : List Fld) (w : World) (e : Ending) (w' : World) : Prop := ∃ v, e = .returned v ∧ w'.ownsRow w.heap.size 67 2 v l.length (fvH l) ∧ Below w.heap.size w w'
theorem rds_own {w : World} {B : Nat} {v : Value} {l : List ByteArray} (h : w.ownsRow B 9 1 v l.length (svH l)) : RdS w v l := RdL.of_own (f := strC) (fun _ => rfl) h
theorem rdf_own {w : World} {B : Nat} {v : Value} {l : List Fld} (h : w.ownsRow B 67 2 v l.length (fvH l)) : RdF w v l := RdL.of_own (f := fldC) (fun _ => rfl) h
theorem rdf_cells {w : World} {a : Option Addr} {c n : Nat} {l : List Fld} (h : RdF w (.slice a n c) l) (h0 : 0 < l.length) : ∃ b o, a = some ⟨b, o, none⟩ ∧ b < w.heap.size ∧ ∀ (j : Nat) (h : j < l.length), w.cell? ⟨b, o + j * 2, none⟩ = some (.string l[j].1) ∧ w.cell? ⟨b, o + j * 2 + 1, none⟩ = some (.string l[j].2) := by
  obtain ⟨a', c', h1, h2, h3, h4⟩ := h
  cases h1
  obtain ⟨b, o, g1, g2, g3⟩ := h4 h0
  exact ⟨b, o, g1, g2, fun j hj => ⟨by have := g3 j hj 0 (by omega); simpa [fldC] using this, by have := g3 j hj 1 (by omega); simpa [fldC] using this⟩⟩
theorem rds_cells {w : World} {a : Option Addr} {c n : Nat} {l : List ByteArray} (h : RdS w (.slice a n c) l) (h0 : 0 < l.length) : ∃ b o, a = some ⟨b, o, none⟩ ∧ b < w.heap.size ∧ ∀ (j : Nat) (h : j < l.length), w.cell? ⟨b, o + j, none⟩ = some (.string l[j]) := by
  obtain ⟨a', c', h1, h2, h3, h4⟩ := h
  cases h1
  obtain ⟨b, o, g1, g2, g3⟩ := h4 h0
  exact ⟨b, o, g1, g2, fun j hj => by have := g3 j hj 0 (by omega); simpa [strC] using this⟩
/-- So short. -/
def FldSm (p : Fld) : Prop := p.1.size ≤ 100000 ∧ p.2.size ≤ 100000
/-- P10.1: the values of the fields of that name. -/
def hAll (l : List Fld) (nm : ByteArray) : List ByteArray := (l.filter fun p => foldB p.1 nm).map (·.2)
theorem hAll_take {l : List Fld} {nm : ByteArray} {k : Nat} (h : k < l.length) : hAll (l.take (k + 1)) nm = hAll (l.take k) nm ++ (if foldB l[k].1 nm = true then [l[k].2] else []) := by
  unfold hAll
  rw [List.take_succ_eq_append_getElem h, List.filter_append, List.map_append]
  cases hf : foldB l[k].1 nm <;> simp [hf]
theorem hAll_len (l : List Fld) (nm : ByteArray) : (hAll l nm).length ≤ l.length := by unfold hAll; rw [List.length_map]; exact List.length_filter_le _ _
end Go.Proofs.YtcbfhlnnfnpkdaaGreatDoor
namespace Go.Proofs.YtcbfhlnnfnpkdaaGreatDoor
open Go.RowKit
set_option linter.unusedVariables false
set_option linter.unusedSimpArgs false

theorem ba_tl {a b : ByteArray} : a.toList = b.toList ↔ a = b := by
  constructor
  · intro h
    rw [ByteArray.toList_eq, ByteArray.toList_eq] at h
    cases a with | mk d => cases b with | mk d2 => simp at h; rw [h]
  · rintro rfl; rfl
theorem ba_tlb {a b : ByteArray} (h : a ≠ b) : (a.toList == b.toList) = false := by rw [beq_eq_false_iff_ne]; exact fun e => h (ba_tl.1 e)
theorem take_same {α : Type} {l m : List α} {k : Nat} (h1 : k < l.length) (h2 : k < m.length) (h : l.take k = m.take k) (he : l[k] = m[k]) : l.take (k + 1) = m.take (k + 1) := by
  rw [List.take_succ_eq_append_getElem h1, List.take_succ_eq_append_getElem h2, h, he]
def sameL {α : Type} [DecidableEq α] (l m : List α) : Bool := decide (l = m)
theorem sameL_len {α : Type} [DecidableEq α] {l m : List α} (h : l.length ≠ m.length) : sameL l m = false := decide_eq_false fun e => h (by rw [e])
theorem sameL_at {α : Type} [DecidableEq α] {l m : List α} {k : Nat} (h1 : k < l.length) (h2 : k < m.length) (h : l[k] ≠ m[k]) : sameL l m = false := decide_eq_false fun e => h (by subst e; rfl)
theorem sameL_all {α : Type} [DecidableEq α] {l m : List α} {k : Nat} (h1 : l.length = m.length) (hk : ¬ k < l.length) (h : l.take k = m.take k) : sameL l m = true := decide_eq_true (by rw [List.take_of_length_le (by omega), List.take_of_length_le (by omega)] at h; exact h)
set_option maxRecDepth 100000 in
set_option maxHeartbeats 2000000 in
theorem rfsame_any (v1 v2 : Value) (l m : List Fld) (w : World) (h1 : RdF w v1 l) (h2 : RdF w v2 m) (hl : l.length ≤ 1000000) (hm : m.length ≤ 1000000) :
    Calls Tryz.prog 33 #[v1, v2] w fun e w' => e = .returned (.bool (sameL l m)) ∧ Below w.heap.size w w' := by
  have H1 := Kp.mk h1
  have H2 := Kp.mk h2
  obtain ⟨a, cap, rfl, -, -, -⟩ := h1
  obtain ⟨a2, cap2, rfl, -, -, -⟩ := h2
  by_cases hlen : l.length = m.length
  · have hln : ((l.length : Int) != (m.length : Int)) = false := by rw [hlen]; simp
    have HLN := Kp.mk hlen
    clear hlen
    go_enter Tryz.func33, Tryz.ntmps33
    go_wp2_with fail
    go_loopw [5] (fun i wr => ∃ k : Nat, k ≤ l.length ∧ i = .int .i64 k ∧ l.take k = m.take k ∧ Below w.heap.size w wr) (fun i _ => l.length - (intOf i).toNat)
    case atStart => exact ⟨0, by omega, rfl, rfl, Below.refl _ _⟩
    case round =>
    obtain ⟨k, hk, rfl, ht, hb⟩ := hrel
    have HT := Kp.mk ht
    have HN := Kp.mk hb
    clear ht hb
    by_cases hlt : k < l.length
    · have hlt2 : k < m.length := by have := HLN.out; omega
      obtain ⟨g, o, rfl, hgl, d0⟩ := rdf_cells (H1.out.below HN.out) (by omega)
      obtain ⟨g2, o2, rfl, hgl2, d1⟩ := rdf_cells (H2.out.below HN.out) (by omega)
      obtain ⟨c1, c2⟩ := d0 k hlt
      obtain ⟨e1, e2⟩ := d1 k hlt2
      have q0 : (0 : Int) ≤ (k : Int) := by omega
      have q1 : (k : Int) < (l.length : Int) := by omega
      have q2 : (k : Int) < (m.length : Int) := by omega
      clear d0 d1
      generalize hx1 : l[k] = x at *
      generalize hy1 : m[k] = y at *
      obtain ⟨x1, x2⟩ := x
      obtain ⟨y1, y2⟩ := y
      simp only at c1 c2 e1 e2
      by_cases hxy : x1 = y1
      · by_cases hxz : x2 = y2
        · subst hxy; subst hxz
          have HXY := Kp.mk (show l[k] = m[k] by rw [hx1, hy1])
          clear hx1 hy1
          go_wp2_with fail
          go_quiet (fail)
          go_wp2_with fail
          go_roundw
          case rel => exact ⟨k + 1, by omega, by go_num, take_same hlt hlt2 HT.out HXY.out, HN.out.trans ((gdrewN wr nq).mono HN.out.size)⟩
          case measure => simp [intOf]; omega
        · subst hxy
          have HXY := Kp.mk (show l[k] ≠ m[k] by rw [hx1, hy1]; intro e; cases e; exact hxz rfl)
          have t2 := ba_tlb hxz
          have t3 : ¬ (x2.toList = y2.toList) := fun e => hxz (ba_tl.1 e)
          clear hx1 hy1
          go_wp2_with fail
          go_quiet (fail)
          go_wp2_with fail
          go_ret
          exact ⟨by rw [sameL_at hlt hlt2 HXY.out]; rfl, HN.out.trans ((gdrewN wr nq).mono HN.out.size)⟩
      · have HXY := Kp.mk (show l[k] ≠ m[k] by rw [hx1, hy1]; intro e; cases e; exact hxy rfl)
        have t2 := ba_tlb hxy
        have t3 : ¬ (x1.toList = y1.toList) := fun e => hxy (ba_tl.1 e)
        clear hx1 hy1
        go_wp2_with fail
        go_quiet (fail)
        go_wp2_with fail
        go_ret
        exact ⟨by rw [sameL_at hlt hlt2 HXY.out]; rfl, HN.out.trans ((gdrewN wr nq).mono HN.out.size)⟩
    · have HS := Kp.mk (sameL_all HLN.out hlt HT.out)
      go_wp2_with fail
      go_ret
      exact ⟨by rw [HS.out]; rfl, HN.out⟩
  · have hln : ((l.length : Int) != (m.length : Int)) = true := by rw [bne_iff_ne]; omega
    have HS := Kp.mk (sameL_len hlen)
    clear hlen
    go_enter Tryz.func33, Tryz.ntmps33
    go_wp2_with fail
    go_ret
    exact ⟨by rw [HS.out]; rfl, Below.refl _ _⟩
end Go.Proofs.YtcbfhlnnfnpkdaaGreatDoor
namespace Go.Proofs.YtcbfhlnnfnpkdaaGreatDoor
open Go.RowKit
set_option linter.unusedVariables false
set_option linter.unusedSimpArgs false

def hHas (x : ByteArray) (ns : List ByteArray) : Bool := ns.any fun n => foldB x n
def hWo (l : List Fld) (ns : List ByteArray) : List Fld := l.filter fun p => !hHas p.1 ns
theorem hHas_take {x : ByteArray} {ns : List ByteArray} {k : Nat} (h : k < ns.length) : hHas x (ns.take (k + 1)) = (hHas x (ns.take k) || foldB x ns[k]) := by
  unfold hHas
  rw [List.take_succ_eq_append_getElem h, List.any_append]
  simp
theorem hHas_hit {x : ByteArray} {ns : List ByteArray} {k : Nat} (h : k < ns.length) (hf : foldB x ns[k] = true) : hHas x ns = true := List.any_eq_true.2 ⟨_, List.getElem_mem h, hf⟩
theorem hWo_take {l : List Fld} {ns : List ByteArray} {k : Nat} (h : k < l.length) : hWo (l.take (k + 1)) ns = hWo (l.take k) ns ++ (if hHas l[k].1 ns = true then [] else [l[k]]) := by
  unfold hWo
  rw [List.take_succ_eq_append_getElem h, List.filter_append]
  cases hf : hHas l[k].1 ns <;> simp [hf]
theorem hWo_len (l : List Fld) (ns : List ByteArray) : (hWo l ns).length ≤ l.length := List.length_filter_le _ _
def IdxPost (b : Bool) (w : World) (e : Ending) (w' : World) : Prop := ∃ r : Int, e = .returned (.int .i64 r) ∧ decide (0 ≤ r) = b ∧ Below w.heap.size w w'
end Go.Proofs.YtcbfhlnnfnpkdaaGreatDoor
namespace Go.Proofs.YtcbfhlnnfnpkdaaGreatDoor
open Go.RowKit
set_option linter.unusedVariables false
set_option linter.unusedSimpArgs false

def hGet (l : List Fld) (nm : ByteArray) : ByteArray := (hAll l nm).headD ⟨#[]⟩
def hIs (l : List Fld) (nm : ByteArray) : Bool := decide (0 < (hAll l nm).length)
theorem hAll_two (l : List Fld) (nm : ByteArray) (k : Nat) : hAll l nm = hAll (l.take k) nm ++ hAll (l.drop k) nm := by
  unfold hAll
  rw [← List.map_append, ← List.filter_append, List.take_append_drop]
theorem hAll_hit {l : List Fld} {nm : ByteArray} {k : Nat} (h : k < l.length) (h0 : hAll (l.take k) nm = []) (hf : foldB l[k].1 nm = true) : hGet l nm = l[k].2 ∧ hIs l nm = true := by
  have e := hAll_two l nm (k + 1)
  rw [hAll_take h, h0, hf] at e
  unfold hGet hIs
  rw [e]
  simp
theorem hAll_miss {l : List Fld} {nm : ByteArray} (h0 : hAll l nm = []) : hGet l nm = ⟨#[]⟩ ∧ hIs l nm = false := by
  unfold hGet hIs
  rw [h0]
  simp
def IdfPost (l : List Fld) (nm : ByteArray) (w : World) (e : Ending) (w' : World) : Prop := ∃ r : Int, e = .returned (.int .i64 r) ∧ Below w.heap.size w w' ∧ ((r = -1 ∧ hAll l nm = []) ∨ ∃ k : Nat, r = (k : Int) ∧ ∃ h : k < l.length, hGet l nm = l[k].2 ∧ hIs l nm = true)
end Go.Proofs.YtcbfhlnnfnpkdaaGreatDoor
