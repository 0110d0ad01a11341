/- Tally (layer 49): tally.Fields, up to what ranked tells. -/
import Derived.Test.YtocnecbhpofdgaaTlb
import Derived.Test.YtocnecbhpofdgaaHde
import Derived.Test.YtocnecbhpofdgaaKeeps
namespace Go.Proofs.Ytocnecbhpofdgaa
open Go.RowKit
set_option linter.unusedVariables false
set_option linter.unusedSimpArgs false

/-- How often a text stands in a list. -/
def ctB (L : List ByteArray) (x : ByteArray) : Int := ((L.filter fun y => decide (y = x)).length : Nat)
theorem ctB_nil : ctB [] = fun _ => 0 := rfl
theorem ctB_in (L : List ByteArray) (x : ByteArray) : 0 ≤ ctB L x ∧ ctB L x ≤ (L.length : Nat) := by
  unfold ctB
  have := List.length_filter_le (fun y => decide (y = x)) L
  omega
theorem ctB_snoc (L : List ByteArray) (y : ByteArray) (hl : L.length ≤ 100000) : ctB (L ++ [y]) = adFs (ctB L) y (tsum (ctB L y) 1) := by
  funext x
  have h1 := ctB_in L y
  have e1 : tsum (ctB L y) 1 = ctB L y + 1 := by unfold tsum; omega
  unfold adFs
  rw [e1]
  unfold ctB
  rw [List.filter_append, List.length_append]
  by_cases e : x = y
  · subst e
    simp
  · have e2 : ¬ y = x := fun h => e h.symm
    simp [e, e2]
def keysT (l : List Fld) : List ByteArray := l.map fun p => lowB p.1
theorem keysT_take {l : List Fld} {k : Nat} (h : k < l.length) : keysT (l.take (k + 1)) = keysT (l.take k) ++ [lowB l[k].1] := by
  unfold keysT
  rw [List.take_succ_eq_append_getElem h, List.map_append]
  rfl
set_option maxRecDepth 100000 in
set_option maxHeartbeats 2000000 in
theorem tfields_of (v : Value) (l : List Fld) (w : World) (hv : RdF w v l) (hz : ∀ p ∈ l, FldSm p) (hl : l.length ≤ 1000) (R : Value → World → Prop)
    (hR : ∀ W, Tys w.heap.size w.heap.size l.length (ctB (keysT l)) W → Below w.heap.size w W → Calls Try.prog 35 #[.pointer (some ⟨w.heap.size, 0, none⟩)] W fun e w' => ∃ u, e = .returned u ∧ R u w') :
    Calls Try.prog 11 #[v] w fun e w' => ∃ u, e = .returned u ∧ R u w' := by
  have HV := Kp.mk hv
  have HR := Kp.mk hR
  have HZ := Kp.mk hz
  obtain ⟨a, c, rfl, hc1, hc2, -⟩ := hv
  have hT := heap_alloc_new w (.cells #[.map none, .string ByteArray.empty, .int .i64 0] 71)
  have HT := Kp.mk (show Tys w.heap.size w.heap.size 0 (ctB (keysT (l.take 0))) (w.alloc (.cells #[.map none, .string ByteArray.empty, .int .i64 0] 71)) from ⟨Nat.le_refl _, fun x => by simp [keysT, ctB], none, hT, .inl ⟨rfl, rfl⟩⟩)
  have HB := Kp.mk ((Below.refl w.heap.size w).alloc (Nat.le_refl _) (.cells #[.map none, .string ByteArray.empty, .int .i64 0] 71))
  clear hR hz hT hc1 hc2
  go_enter Try.func11, Try.ntmps11
  go_upto_region 3 with fail
  go_loopw [8] (fun i wr => ∃ k : Nat, k ≤ l.length ∧ i = .int .i64 k ∧ Tys w.heap.size w.heap.size k (ctB (keysT (l.take k))) wr ∧ Below w.heap.size w wr) (fun i _ => l.length - (intOf i).toNat)
  case atStart => exact ⟨0, Nat.zero_le _, rfl, HT.out, HB.out⟩
  case round =>
    obtain ⟨k, hk, rfl, ht, hb⟩ := hrel
    have HTK := Kp.mk ht
    have HBK := Kp.mk hb
    have hszk := hb.size
    clear ht hb
    by_cases hlt : k < l.length
    · obtain ⟨b, o, rfl, hbl, d⟩ := rdf_cells (HV.out.below HBK.out) (by omega)
      obtain ⟨c1, c2⟩ := d k hlt
      have HS := Kp.mk (HZ.out _ (List.getElem_mem hlt))
      have HKT := Kp.mk (keysT_take hlt)
      have HKL := Kp.mk (show (keysT (l.take k)).length ≤ 100000 by unfold keysT; rw [List.length_map, List.length_take]; omega)
      clear d
      generalize l[k] = f at *
      obtain ⟨x, y⟩ := f
      dsimp only at c1 c2 HS HKT
      have HBA := Kp.mk (show Below wr.heap.size wr (wr.alloc (.cells #[.string x, .string y] 64)) from (Below.refl _ _).alloc (Nat.le_refl _) _)
      have q1 : (k : Int) < (l.length : Int) := by omega
      have q0 : (0 : Int) ≤ (k : Int) := by omega
      go_wp2_with fail
      refine (oct_lower_any x _ (by have := HS.out.1; dsimp only at this; omega)).mono ?_
      rintro e w2 ⟨rfl, hb2⟩
      have HB2 := Kp.mk (HBA.out.trans (hb2.mono HBA.out.size))
      have HT2 := Kp.mk (HTK.out.below HB2.out)
      have hlx : (lowB x).size ≤ maxLen := by rw [lowB_size]; have := HS.out.1; dsimp only at this; unfold maxLen; omega
      have HA := Kp.mk (tadds_any w.heap.size w.heap.size k _ (lowB x) 1 w2 HT2.out hlx (by omega) (Nat.le_trans hszk HB2.out.size))
      clear hb2 hlx
      go_wp2_with fail
      refine HA.out.mono ?_
      rintro e w3 ⟨rfl, ht3, hb3⟩
      have HT3 := Kp.mk ht3
      have HB3 := Kp.mk hb3
      clear ht3 hb3 HA
      go_wp2_with fail
      go_roundw
      case rel => exact ⟨k + 1, by omega, by go_num, by rw [HKT.out, ctB_snoc _ _ HKL.out]; exact HT3.out, (HBK.out.trans (HB2.out.mono hszk)).trans HB3.out⟩
      case measure => simp [intOf]; omega
    · have hkn : k = l.length := by omega
      subst hkn
      have HTL := Kp.mk (HR.out wr (by have := HTK.out; rwa [List.take_length] at this) HBK.out)
      go_wp2_with fail
      refine HTL.out.mono ?_
      rintro e w2 ⟨u, rfl, hr⟩
      go_wp2_with fail
      go_ret
      exact ⟨u, rfl, hr⟩
end Go.Proofs.Ytocnecbhpofdgaa
