/- Words with parameters: a parameter is taken (layer 8). -/
import Derived.Test.YtjocmjmfkgogiaaPra
import Derived.Test.YtjocmjmfkgogiaaCuh
import Derived.Laws.Rows
namespace Go.Proofs.Ytjocmjmfkgogiaa
open Go.RowKit
set_option linter.unusedVariables false
set_option linter.unusedSimpArgs false

/-- Block g holds just the cells cs, of type t. -/
def Bl (w : World) (g : Nat) (t : TypeId) (cs : Array Value) : Prop := w.heap[g]? = some (.cells cs t (0, 0))
theorem Bl.lt {w : World} {g : Nat} {t : TypeId} {cs : Array Value} (h : Bl w g t cs) : g < w.heap.size := (Array.getElem?_eq_some_iff.1 h).1
theorem Bl.cell {w : World} {g : Nat} {t : TypeId} {cs : Array Value} (h : Bl w g t cs) (i : Nat) : w.cell? ⟨g, i, none⟩ = cs[i]? := cell_of_row w g i cs t (0, 0) h
theorem Bl.free {w : World} {g : Nat} {t : TypeId} {cs : Array Value} (h : Bl w g t cs) (i : Nat) : w.frozen? ⟨g, i, none⟩ = false := by
  unfold Bl at h; simp [World.frozen?, h]
theorem Bl.new (w : World) (t : TypeId) (cs : Array Value) : Bl (w.alloc (.cells cs t)) w.heap.size t cs := heap_alloc_new w _
theorem Bl.alloc {w : World} {g : Nat} {t : TypeId} {cs : Array Value} (h : Bl w g t cs) (o : Obj) : Bl (w.alloc o) g t cs := (Below.heap_alloc w o g h.lt).trans h
theorem Bl.below {w w' : World} {g : Nat} {t : TypeId} {cs : Array Value} (h : Bl w g t cs) (hb : Below w.heap.size w w') : Bl w' g t cs := (hb.block g h.lt).trans h
theorem Bl.but {w w' : World} {g b : Nat} {t : TypeId} {cs : Array Value} (h : Bl w g t cs) (hb : But b w w') (hg : g ≠ b) : Bl w' g t cs := (hb.block g h.lt hg).trans h
theorem Bl.set {w : World} {g : Nat} {t : TypeId} {cs : Array Value} (h : Bl w g t cs) (i : Nat) (u : Value) : Bl (w.setCell ⟨g, i, none⟩ u) g t (cs.setIfInBounds i u) := by
  unfold Bl at *; simp [World.setCell, Array.getElem?_modify, h]
theorem Bl.far {w : World} {g : Nat} {t : TypeId} {cs : Array Value} (h : Bl w g t cs) {p : Addr} (hp : g ≠ p.block) (u : Value) : Bl (w.setCell p u) g t cs := (Below.heap_setCell w p u g hp).trans h
theorem CurAt.but {b n g : Nat} {s : ByteArray} {w w' : World} (h : CurAt b s n w) (hb : But g w w') (hg : b ≠ g) : CurAt b s n w' :=
  ⟨by rw [hb.cell (p := ⟨b, 0, none⟩) h.lt hg]; exact h.txt, by rw [hb.cell (p := ⟨b, 1, none⟩) h.lt hg]; exact h.pos, by rw [hb.frozen (p := ⟨b, 1, none⟩) h.lt hg]; exact h.free, Nat.lt_of_lt_of_le h.lt hb.size, h.le, h.small, (hb.block b h.lt hg).trans h.blk⟩
theorem But.of_below {b B : Nat} {w w' : World} (h : Below B w w') (hB : w.heap.size ≤ B) : But b w w' := ⟨h.os, h.tape, h.output, h.size, fun k hk _ => h.block k (by omega)⟩
theorem But.alloc {b : Nat} {w w' : World} (h : But b w w') (o : Obj) : But b w (w'.alloc o) := h.trans (But.of ((Below.refl _ _).alloc (Nat.le_refl _) o))
/-- What But b leaves, where the other block is new. -/
theorem But.new {b g : Nat} {u w w' : World} (h : But b u w) (hg : u.heap.size ≤ g) (k : But g w w') : But b u w' :=
  ⟨k.os.trans h.os, k.tape.trans h.tape, k.output.trans h.output, Nat.le_trans h.size k.size, fun i hi hb => (k.block i (Nat.lt_of_lt_of_le hi h.size) (by omega)).trans (h.block i hi hb)⟩
theorem But.store {b g : Nat} {u w : World} (h : But b u w) (hg : u.heap.size ≤ g) (i : Nat) (v : Value) : But b u (w.setCell ⟨g, i, none⟩ v) :=
  h.new hg ⟨rfl, rfl, rfl, by simp [World.setCell], fun k hk hb => Below.heap_setCell _ _ _ _ hb⟩

theorem CurAt.far {b n g : Nat} {s : ByteArray} {w : World} (h : CurAt b s n w) (hg : b ≠ g) (i : Nat) (v : Value) : CurAt b s n (w.setCell ⟨g, i, none⟩ v) :=
  h.but ((But.of (Below.refl _ _)).setCell i v) hg
theorem CurAt.alloc {b n : Nat} {s : ByteArray} {w : World} (h : CurAt b s n w) (o : Obj) : CurAt b s n (w.alloc o) := h.kept ((Below.refl _ _).alloc (Nat.le_refl _) _)

def OnePost (b n : Nat) (s : ByteArray) (w : World) (e : Ending) (w' : World) : Prop :=
  ∃ (nm vl : ByteArray) (m : Nat), e = .returned (.tuple #[.agg #[.string nm, .string vl], .bool (parOk (fromB s n))]) ∧ CurTo b s m w w' ∧ (parOk (fromB s n) = true → nm = parName (fromB s n) ∧ vl = parVal (fromB s n) ∧ m = n + parEnd (fromB s n))

structure OneFacts (n : Nat) (s : ByteArray) : Prop where
  e2 : n + semiAt (fromB s n) + 1 + preN blankN (fromB s (n + semiAt (fromB s n) + 1)) = n + nameAt (fromB s n)
  e3 : fromB s (n + nameAt (fromB s n)) = fromB (fromB s n) (nameAt (fromB s n))
  e4 : n + nameAt (fromB s n) + nameLen (fromB s n) = n + nameEnd (fromB s n)
  e5 : fromB s (n + nameEnd (fromB s n)) = fromB (fromB s n) (nameEnd (fromB s n))
  e6 : n + nameEnd (fromB s n) + preN blankN (fromB (fromB s n) (nameEnd (fromB s n))) = n + eqAt (fromB s n)
  e7 : n + eqAt (fromB s n) + 1 + preN blankN (fromB s (n + eqAt (fromB s n) + 1)) = n + valAt (fromB s n)
  e8 : fromB s (n + valAt (fromB s n)) = fromB (fromB s n) (valAt (fromB s n))
  e9 : n + valAt (fromB s n) + valLen (fromB s n) = n + (valAt (fromB s n) + valLen (fromB s n))
theorem oneFacts (n : Nat) (s : ByteArray) : OneFacts n s := by
  have f : ∀ k, fromB s (n + k) = fromB (fromB s n) k := fun k => (fromB_from s n k).symm
  refine ⟨?_, f _, by unfold nameEnd; omega, f _, by unfold eqAt; omega, ?_, f _, by omega⟩
  · rw [Nat.add_assoc n, f]; unfold nameAt; omega
  · rw [Nat.add_assoc n, f]; unfold valAt; omega
theorem semi_iff {n : Nat} {s : ByteArray} (hn : n ≤ s.size) : (hasSemi (fromB s n) = true → n + semiAt (fromB s n) < s.size ∧ (bt s (n + semiAt (fromB s n)) : Int) = 59) ∧ (hasSemi (fromB s n) = false → n + semiAt (fromB s n) < s.size → ¬ (bt s (n + semiAt (fromB s n)) : Int) = 59) := by
  have hz := fromB_size s n
  refine ⟨fun h => ?_, fun h h1 h2 => ?_⟩
  · simp only [hasSemi, Bool.and_eq_true, decide_eq_true_eq, beq_iff_eq] at h
    have h1 : n + semiAt (fromB s n) < s.size := by omega
    rw [fromB_bt s n _ h1] at h
    exact ⟨h1, by omega⟩
  · have h3 : hasSemi (fromB s n) = true := by
      simp only [hasSemi, Bool.and_eq_true, decide_eq_true_eq, beq_iff_eq]
      exact ⟨by omega, by rw [fromB_bt s n _ h1]; omega⟩
    rw [h3] at h; cases h
theorem eq_iff {x : ByteArray} (he : nameEnd x ≤ x.size) : (hasEq x = true → preN blankN (fromB x (nameEnd x)) < (fromB x (nameEnd x)).size ∧ (bt (fromB x (nameEnd x)) (preN blankN (fromB x (nameEnd x))) : Int) = 61) ∧
    (hasEq x = false → preN blankN (fromB x (nameEnd x)) < (fromB x (nameEnd x)).size → ¬ (bt (fromB x (nameEnd x)) (preN blankN (fromB x (nameEnd x))) : Int) = 61) := by
  have hz := fromB_size x (nameEnd x)
  refine ⟨fun h => ?_, fun h h1 h2 => ?_⟩
  · simp only [hasEq, Bool.and_eq_true, decide_eq_true_eq, beq_iff_eq] at h
    have h1 : nameEnd x + preN blankN (fromB x (nameEnd x)) < x.size := h.1
    refine ⟨by omega, ?_⟩
    rw [fromB_bt x _ _ h1]
    have := h.2
    unfold eqAt at this
    omega
  · have h4 : nameEnd x + preN blankN (fromB x (nameEnd x)) < x.size := by omega
    have h3 : hasEq x = true := by
      simp only [hasEq, Bool.and_eq_true, decide_eq_true_eq, beq_iff_eq]
      refine ⟨h4, ?_⟩
      rw [fromB_bt x _ _ h4] at h2
      unfold eqAt; omega
    rw [h3] at h; cases h
theorem eqb_iff {n : Nat} {s : ByteArray} (hn : n ≤ s.size) (h : hasEq (fromB s n) = true) : n + eqAt (fromB s n) < s.size ∧ (bt s (n + eqAt (fromB s n)) : Int) = 61 := by
  have hz := fromB_size s n
  simp only [hasEq, Bool.and_eq_true, decide_eq_true_eq, beq_iff_eq] at h
  have h1 : n + eqAt (fromB s n) < s.size := by omega
  rw [fromB_bt s n _ h1] at h
  exact ⟨h1, by omega⟩
theorem lowB_sz (s : ByteArray) : (lowB s).size = s.size := by rw [ba_size, ba_size]; simp [lowB, lowL]
theorem tl_of_size {s : ByteArray} (h : s.size = 0) : s.toList = [] := by rw [ByteArray.toList_eq, ← List.length_eq_zero_iff, ← ba_size]; exact h
theorem tl_ne_size {s : ByteArray} (h : 0 < s.size) : s.toList.isEmpty = false := by rw [emp_iff, decide_eq_false_iff_not]; omega

set_option maxRecDepth 100000 in
set_option maxHeartbeats 4000000 in
theorem one_a (b n : Nat) (s : ByteArray) (w : World) (h : CurAt b s n w) (hs : s.size ≤ 140737488351232) (hh : hasSemi (fromB s n) = false) :
    Calls Try.prog 67 #[.pointer (some ⟨b, 0, none⟩)] w (OnePost b n s w) := by
  have HC := Lib.hid h
  have F := Lib.hid (oneFacts n s)
  have hbw := h.lt
  have hle := h.le
  have HS := Lib.hid (semi_iff hle)
  have HH := Lib.hid hh
  have HPO := Lib.hid (show parOk (fromB s n) = false by unfold parOk; rw [hh]; rfl)
  clear h hh
  go_enter Try.func67, Try.ntmps67
  go_wp2_with fail
  refine (cur_skip _ _ _ _ (HC.out.kept ((Below.refl _ _).alloc (Nat.le_refl _) _))).mono ?_
  rintro e w1 ⟨rfl, ht1⟩
  have HT1 := Lib.hid (show But b w w1 ∧ CurAt b s (n + semiAt (fromB s n)) w1 from ⟨(But.of ((Below.refl _ _).alloc (Nat.le_refl _) _)).trans ht1.1, ht1.2⟩)
  have HR1 := Lib.hid ((Bl.new w 49 #[.string ⟨#[]⟩, .string ⟨#[]⟩]).but ht1.1 (by omega))
  clear ht1
  go_wp2_with fail
  refine (cur_byte_no _ _ _ _ _ HT1.out.2 (HS.out.2 HH.out)).mono ?_
  rintro e w2 ⟨rfl, hb2⟩
  have HT2 := Lib.hid (show But b w w2 ∧ CurAt b s (n + semiAt (fromB s n)) w2 from ⟨HT1.out.1.trans (But.of hb2), HT1.out.2.kept hb2⟩)
  have HR2 := Lib.hid (HR1.out.below hb2)
  clear hb2
  go_wp2_with fail
  refine (cur_skip _ _ _ _ HT2.out.2).mono ?_
  rintro e w3 ⟨rfl, ht3⟩
  have HT3 := Lib.hid (show But b w w3 ∧ ∃ m, CurAt b s m w3 from ⟨HT2.out.1.trans ht3.1, _, ht3.2⟩)
  have HR3 := Lib.hid (HR2.out.but ht3.1 (by omega))
  clear ht3
  obtain ⟨hq3, m3, hm3⟩ := HT3.out
  have HQ3 := Lib.hid hq3
  have HM3 := Lib.hid hm3
  clear hq3 hm3
  go_wp2_with fail
  refine (cur_token _ _ _ _ HM3.out).mono ?_
  rintro e w4 ⟨rfl, ht4⟩
  have hsz : (upB (fromB s m3) (preN tcharB (fromB s m3))).size ≤ 140737488351232 := by rw [upB_size]; have := fromB_size s m3; omega
  generalize upB (fromB s m3) (preN tcharB (fromB s m3)) = tk at *
  have HT4 := Lib.hid (show But b w w4 ∧ ∃ m, CurAt b s m w4 from ⟨HQ3.out.trans ht4.1, _, ht4.2⟩)
  have HR4 := Lib.hid (HR3.out.but ht4.1 (by omega))
  clear ht4
  obtain ⟨hq4, m4, hm4⟩ := HT4.out
  have HQ4 := Lib.hid hq4
  have HM4 := Lib.hid hm4
  clear hq4 hm4
  go_wp2_with fail
  refine (oct_lower_any _ _ hsz).mono ?_
  rintro e w5 ⟨rfl, hb5⟩
  have HQ5 := Lib.hid (HQ4.out.trans (But.of hb5))
  have HM5 := Lib.hid (HM4.out.kept hb5)
  have HR5 := Lib.hid (HR4.out.below hb5)
  clear hb5
  have hw5 : w.heap.size < w5.heap.size := HR5.out.lt
  have hR0 := HR5.out.free 0
  have hR1 := HR5.out.free 1
  have hRc0 := HR5.out.cell 0
  have hRc1 := HR5.out.cell 1
  go_wp2_with fail
  refine bodyPost_ret (v := .tuple #[.agg #[.string (lowB tk), .string ⟨#[]⟩], .bool false]) (by simp [results, Try.results67, go_sem, hRc0, hRc1, hw5]) rfl ⟨lowB tk, ⟨#[]⟩, m4, by rw [HPO.out], ⟨?_, ?_⟩, fun hx => by rw [HPO.out] at hx; cases hx⟩
  · exact ((HQ5.out.store (Nat.le_refl _) _ _).store (Nat.le_refl _) _ _).alloc _
  · exact ((HM5.out.far (by omega) _ _).far (by omega) _ _).alloc _
end Go.Proofs.Ytjocmjmfkgogiaa
