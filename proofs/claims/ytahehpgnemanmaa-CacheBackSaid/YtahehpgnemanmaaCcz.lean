/- What is said to caches (layer 21): a directive, as plain functions; its block. -/
import Derived.Test.YtahehpgnemanmaaPrc
import Derived.Test.YtahehpgnemanmaaCna
import Derived.Deep.RegionWith
import Derived.Deep.RegionHeld3
namespace Go.Proofs.Ytahehpgnemanmaa
open Go.RowKit
set_option linter.unusedVariables false
set_option linter.unusedSimpArgs false

def dN (s : ByteArray) : Nat := preN tcharB s
def dK (s : ByteArray) : Nat := preN tcharB (fromB s (dN s + 1))
def dQ (s : ByteArray) : Nat := quotedN (fromB s (dN s + 1))
def nmD (s : ByteArray) : ByteArray := lowB (upB s (dN s))
def setD (s : ByteArray) : Bool := decide (dN s < s.size) && (bt s (dN s) == 61)
def vlD (s : ByteArray) : ByteArray := if setD s then (if 0 < dK s then upB (fromB s (dN s + 1)) (dK s) else quotedS (fromB s (dN s + 1))) else ⟨#[]⟩
def enD (s : ByteArray) : Nat := if setD s then (if 0 < dK s then dN s + 1 + dK s else dN s + 1 + dQ s) else dN s
/-- P21.1: is it one? -/
def okD (s : ByteArray) : Bool := decide (0 < dN s) && ((!setD s || (decide (0 < dK s) || decide (0 < dQ s))) && decide ((fromB s (enD s)).size = 0))
theorem low_emp (x : ByteArray) : (lowB x).toList = [] ↔ x.size = 0 := by
  rw [ByteArray.toList_eq, ← List.length_eq_zero_iff, ← ba_size, lowB_size]
theorem bl_cells {w : World} {d : Nat} {c0 c1 c2 : Value} (h : Bl w d 74 #[c0, c1, c2]) : w.cell? ⟨d, 0, none⟩ = some c0 ∧ w.cell? ⟨d, 1, none⟩ = some c1 ∧ w.cell? ⟨d, 2, none⟩ = some c2 := ⟨h.cell 0, h.cell 1, h.cell 2⟩
theorem bl_off {w : World} {d h : Nat} {cs : Array Value} (hd : Bl w d 74 cs) (hne : d ≠ h) (a b c : Value) : Bl (((w.setCell ⟨h, 0, none⟩ a).setCell ⟨h, 1, none⟩ b).setCell ⟨h, 2, none⟩ c) d 74 cs :=
  ((hd.far (p := ⟨h, 0, none⟩) hne a).far (p := ⟨h, 1, none⟩) hne b).far (p := ⟨h, 2, none⟩) hne c
theorem bl_set3 {w : World} {h : Nat} {r0 r1 r2 : Value} (hd : Bl w h 74 #[r0, r1, r2]) (a b c : Value) : Bl (((w.setCell ⟨h, 0, none⟩ a).setCell ⟨h, 1, none⟩ b).setCell ⟨h, 2, none⟩ c) h 74 #[a, b, c] :=
  ((hd.set 0 a).set 1 b).set 2 c
theorem below_set3 {w0 w : World} {h : Nat} (hb : Below h w0 w) (a b c : Value) : Below h w0 (((w.setCell ⟨h, 0, none⟩ a).setCell ⟨h, 1, none⟩ b).setCell ⟨h, 2, none⟩ c) :=
  ((hb.setCell (p := ⟨h, 0, none⟩) (Nat.le_refl _) a).setCell (p := ⟨h, 1, none⟩) (Nat.le_refl _) b).setCell (p := ⟨h, 2, none⟩) (Nat.le_refl _) c
end Go.Proofs.Ytahehpgnemanmaa
