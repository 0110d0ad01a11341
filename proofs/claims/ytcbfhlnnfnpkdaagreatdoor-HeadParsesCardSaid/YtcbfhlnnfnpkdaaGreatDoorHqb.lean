/- Heads (layer 22): a head's text, on both sides. -/
import Derived.Test.YtcbfhlnnfnpkdaaGreatDoorStt
import Derived.Test.YtcbfhlnnfnpkdaaGreatDoorFlb
import Derived.Test.YtcbfhlnnfnpkdaaGreatDoorHde
import Derived.Test.YtcbfhlnnfnpkdaaGreatDoorBld
import Derived.Test.YtcbfhlnnfnpkdaaGreatDoorShb
namespace Go.Proofs.YtcbfhlnnfnpkdaaGreatDoor
open Go.RowKit
set_option linter.unusedVariables false
set_option linter.unusedSimpArgs false

/-- A head's lines of fields, each with its end. -/
def flsL (l : List Fld) : List UInt8 := l.flatMap fun p => (fLine p.1 p.2).data.toList ++ [13, 10]
theorem flsL_take {l : List Fld} {k : Nat} (h : k < l.length) : flsL (l.take (k + 1)) = flsL (l.take k) ++ ((fLine l[k].1 l[k].2).data.toList ++ [13, 10]) := by
  unfold flsL
  rw [List.take_succ_eq_append_getElem h, List.flatMap_append]
  simp
/-- P22.4: what stands ahead of the fields' k-th line. -/
def prnL (m t : ByteArray) (mi st : Int) (r : ByteArray) (l : List Fld) (k : Nat) : List UInt8 := (lineH m t mi st r).data.toList ++ [13, 10] ++ flsL (l.take k)
def prnB (m t : ByteArray) (mi st : Int) (r : ByteArray) (l : List Fld) : ByteArray := ⟨(prnL m t mi st r l l.length ++ [13, 10]).toArray⟩
theorem fLine_size (n v : ByteArray) : (fLine n v).size ≤ n.size + v.size + 2 := by
  unfold fLine
  split
  · rw [ByteArray.size_append]; show n.size + 1 ≤ _; omega
  · rw [ByteArray.size_append, ByteArray.size_append]; show n.size + 2 + _ ≤ _; omega
theorem flsL_size {M : Nat} : ∀ {l : List Fld}, (∀ p ∈ l, p.1.size + p.2.size ≤ M) → (flsL l).length ≤ l.length * (M + 4)
  | [], _ => by simp [flsL]
  | p :: l, h => by
    have h1 := flsL_size (l := l) (fun q hq => h q (List.mem_cons_of_mem _ hq))
    have h2 := h p (by simp)
    have h3 := fLine_size p.1 p.2
    have e : flsL (p :: l) = (fLine p.1 p.2).data.toList ++ [13, 10] ++ flsL l := by simp [flsL]
    rw [e, List.length_append, List.length_append, ← ba_size']
    have : (l.length + 1) * (M + 4) = l.length * (M + 4) + (M + 4) := Nat.succ_mul _ _
    rw [show (p :: l).length = l.length + 1 from rfl, this]
    generalize l.length * (M + 4) = q at *
    show _ + 2 + _ ≤ _
    omega
theorem lineH_size (m t : ByteArray) (mi st : Int) (r : ByteArray) : (lineH m t mi st r).size ≤ m.size + t.size + r.size + 60 := by
  have hv := verS_size mi
  have hp := padL_size st
  unfold lineH
  split
  · simp only [ByteArray.size_append]; show _ + 1 + _ + 1 + _ ≤ _; omega
  · simp only [ByteArray.size_append]; show _ + 1 + _ + 1 + _ ≤ _; omega
theorem prnL_size {m t : ByteArray} {mi st : Int} {r : ByteArray} {l : List Fld} (hm : m.size ≤ 100000) (ht : t.size ≤ 100000) (hr : r.size ≤ 100000) (hl : l.length ≤ 10000) (hz : ∀ p ∈ l, FldSm p) (k : Nat) : (prnL m t mi st r l k).length ≤ 10000000000 := by
  have h1 := lineH_size m t mi st r
  have h2 := flsL_size (M := 200000) (l := l.take k) (fun p hp => by have := hz p (List.mem_of_mem_take hp); unfold FldSm at this; omega)
  have h3 : (l.take k).length ≤ 10000 := by rw [List.length_take]; omega
  have h4 : (l.take k).length * (200000 + 4) ≤ 10000 * (200000 + 4) := Nat.mul_le_mul_right _ h3
  unfold prnL
  rw [List.length_append, List.length_append, ← ba_size']
  show _ + 2 + _ ≤ _
  omega
theorem isb_below {B b : Nat} {bs : List Value} {w w' : World} (h : IsBd B b bs w) (hb : Below w.heap.size w w') : IsBd B b bs w' := by
  have key : ∀ p, Lib.BuilderAtF 60 5 B b p bs w → Lib.BuilderAtF 60 5 B b p bs w' := by
    rintro p ⟨hB, v, hbk, hown, hne⟩
    refine ⟨hB, v, (hb.block _ (blk_lt hbk)).trans hbk, ⟨hown.1, ?_⟩, hne⟩
    rcases hown.2 with h1 | ⟨g, cap, cur, fz, h1, h2, h3, rest⟩
    · exact .inl h1
    · exact .inr ⟨g, cap, cur, fz, h1, h2, (hb.block _ (blk_lt h3)).trans h3, rest⟩
  exact h.elim (fun x => .inl (key _ x)) (fun x => .inr (key _ x))
set_option maxRecDepth 100000 in
set_option maxHeartbeats 1000000 in
theorem hadd_any (B b : Nat) (L : List UInt8) (x : ByteArray) (w : World) (h : IsBd B b (Lib.byteCells L) w) (hlen : L.length + x.size ≤ 140737488355000) (hBw : B ≤ w.heap.size) :
    Calls Tryz.prog 35 #[.string x, .pointer (some ⟨b, 0, none⟩)] w fun e w' => e = .returned (.tuple #[]) ∧ IsBd B b (Lib.byteCells (L ++ (x.data.toList ++ [13, 10]))) w' ∧ Below B w w' := by
  have H := Kp.mk h
  clear h
  go_enter Tryz.func35, Tryz.ntmps35
  go_wp2_with fail
  refine (bwrite_any B b _ x _ H.out (by rw [Lib.byteCells_length]; omega) hBw).mono ?_
  rintro e w1 ⟨rfl, h1, hb1, -⟩
  have H1 := Kp.mk (show IsBd B b (Lib.byteCells L ++ Lib.strCells x) w1 from .inr h1)
  have HB1 := Kp.mk hb1
  clear h1 hb1
  go_wp2_with fail
  refine (bwrite_any B b _ ⟨#[13, 10]⟩ _ H1.out (by rw [List.length_append, Lib.byteCells_length, Lib.strCells_length]; show _ + 2 ≤ _; omega) (Nat.le_trans hBw HB1.out.size)).mono ?_
  rintro e w2 ⟨rfl, h2, hb2, -⟩
  have H2 := Kp.mk h2
  have HB2 := Kp.mk (HB1.out.trans hb2)
  clear h2 hb2
  go_wp2_with fail
  go_end0
  refine ⟨rfl, ?_, HB2.out⟩
  have e : Lib.byteCells (L ++ (x.data.toList ++ [13, 10])) = Lib.byteCells L ++ Lib.strCells x ++ Lib.strCells ⟨#[13, 10]⟩ := by
    rw [Lib.byteCells_append, Lib.byteCells_append, List.append_assoc]; rfl
  rw [e]
  exact .inr H2.out
set_option maxRecDepth 100000 in
set_option maxHeartbeats 2000000 in
theorem hprint22_any (m t : ByteArray) (mi st : Int) (r : ByteArray) (v : Value) (l : List Fld) (w : World) (hv : RdF w v l) (hl : l.length ≤ 10000) (hz : ∀ p ∈ l, FldSm p) (hm : m.size ≤ 100000) (ht : t.size ≤ 100000) (hr : r.size ≤ 100000) (h0 : -9223372036854775808 ≤ st) (h1 : st ≤ 9223372036854775807) :
    Calls Tryz.prog 13 #[.agg #[.string m, .string t, .int .i64 mi, .int .i64 st, .string r, v]] w fun e w' => e = .returned (.string (prnB m t mi st r l)) ∧ Below w.heap.size w w' := by
  have HV := Kp.mk hv
  have HZ := Kp.mk hz
  have HPS := Kp.mk (fun k => prnL_size (mi := mi) (st := st) hm ht hr hl hz k)
  have HPT := Kp.mk (show prnB m t mi st r l = ⟨(prnL m t mi st r l l.length ++ [13, 10]).toArray⟩ from rfl)
  have HP0 := Kp.mk (show prnL m t mi st r l 0 = [] ++ ((lineH m t mi st r).data.toList ++ [13, 10]) by unfold prnL flsL; simp)
  have HPN := Kp.mk (fun (k : Nat) (h : k < l.length) => show prnL m t mi st r l (k + 1) = prnL m t mi st r l k ++ ((fLine l[k].1 l[k].2).data.toList ++ [13, 10]) by unfold prnL; rw [flsL_take h, ← List.append_assoc])
  obtain ⟨a, c, rfl, -, -, -⟩ := hv
  have e1 : (w.alloc (.cells #[.string m, .string t, .int .i64 mi, .int .i64 st, .string r, .slice a l.length c] 29)).heap.size = w.heap.size + 1 := World.size_alloc _ _
  have HI0 := Kp.mk (show IsBd (w.heap.size + 1) (w.heap.size + 1) (Lib.byteCells []) ((w.alloc (.cells #[.string m, .string t, .int .i64 mi, .int .i64 st, .string r, .slice a l.length c] 29)).alloc (.cells #[.pointer none, .slice none 0 0] 60)) from by
    have := Lib.IsBuilderF.of (Lib.fresh_isBuilder 60 5 (w.alloc (.cells #[.string m, .string t, .int .i64 mi, .int .i64 st, .string r, .slice a l.length c] 29)))
    rw [e1] at this
    exact this)
  have HX0 := Kp.mk (show ((w.alloc (.cells #[.string m, .string t, .int .i64 mi, .int .i64 st, .string r, .slice a l.length c] 29)).alloc (.cells #[.pointer none, .slice none 0 0] 60)).heap[w.heap.size]? = some (.cells #[.string m, .string t, .int .i64 mi, .int .i64 st, .string r, .slice a l.length c] 29 (0, 0)) from blk_alloc (heap_alloc_new w _))
  have HB0 := Kp.mk (((Below.refl w.heap.size w).alloc (Nat.le_refl _) (.cells #[.string m, .string t, .int .i64 mi, .int .i64 st, .string r, .slice a l.length c] 29)).alloc (by rw [e1]; omega) (.cells #[.pointer none, .slice none 0 0] 60))
  have HSZ := Kp.mk (show ((w.alloc (.cells #[.string m, .string t, .int .i64 mi, .int .i64 st, .string r, .slice a l.length c] 29)).alloc (.cells #[.pointer none, .slice none 0 0] 60)).heap.size = w.heap.size + 2 by rw [World.size_alloc, e1])
  clear e1 hz
  go_enter Tryz.func13, Tryz.ntmps13
  go_wp2_with fail
  refine (line15_any m t mi st r a l.length c _ (by omega) (by omega) (by omega) h0 h1).mono ?_
  rintro e w3 ⟨rfl, hb3⟩
  have HI3 := Kp.mk (isb_below HI0.out hb3)
  have hx3 := (hb3.block _ (blk_lt HX0.out)).trans HX0.out
  have HB3 := Kp.mk (HB0.out.trans (hb3.mono (by have := HSZ.out; omega)))
  have hs3 : w.heap.size + 2 ≤ w3.heap.size := by have := HSZ.out; have := hb3.size; omega
  have HLZ := Kp.mk (lineH_size m t mi st r)
  clear hb3 HI0 HX0 HB0
  generalize lineH m t mi st r = x0 at *
  go_wp2_with fail
  refine (hadd_any (w.heap.size + 1) (w.heap.size + 1) [] x0 _ HI3.out (by have := HLZ.out; simp; omega) (by omega)).mono ?_
  rintro e w4 ⟨rfl, hi4, hb4⟩
  rw [← HP0.out] at hi4
  have hx4 := (hb4.block _ (by omega)).trans hx3
  have c5 := blk_cell (i := 5) hx4 rfl
  have HI4 := Kp.mk hi4
  have HB4 := Kp.mk (HB3.out.trans (hb4.mono (by omega)))
  have hs4 : w.heap.size + 2 ≤ w4.heap.size := by have := hb4.size; omega
  clear hb4 hi4 hx3 hs3 HI3 HB3
  go_wp2_with fail
  go_loopw [15] (fun i wr => ∃ k : Nat, k ≤ l.length ∧ i = .int .i64 k ∧ IsBd (w.heap.size + 1) (w.heap.size + 1) (Lib.byteCells (prnL m t mi st r l k)) wr ∧ Below w.heap.size w wr ∧ w.heap.size + 2 ≤ wr.heap.size) (fun i _ => l.length - (intOf i).toNat)
  case atStart => exact ⟨0, by omega, rfl, HI4.out, HB4.out, hs4⟩
  case round =>
    obtain ⟨k, hk, rfl, hi, hb, hs⟩ := hrel
    have HI := Kp.mk hi
    have HB := Kp.mk hb
    clear hi c5 hx4 HI4 HB4 hs4
    by_cases hlt : k < l.length
    · obtain ⟨g, o, rfl, hgl, d0⟩ := rdf_cells (HV.out.below hb) (by omega)
      obtain ⟨c1, c2⟩ := d0 k hlt
      have HS := Kp.mk (HZ.out _ (List.getElem_mem hlt))
      have HN := Kp.mk (HPN.out k hlt)
      have HFS := Kp.mk (fLine_size l[k].1 l[k].2)
      have q0 : (0 : Int) ≤ (k : Int) := by omega
      have q1 : (k : Int) < (l.length : Int) := by omega
      have HB5 := Kp.mk (hb.alloc (by omega) (.cells #[.string l[k].1, .string l[k].2] 67))
      have HI5 := Kp.mk (isb_below HI.out ((Below.refl _ wr).alloc (Nat.le_refl _) (.cells #[.string l[k].1, .string l[k].2] 67)))
      have e5 : (wr.alloc (.cells #[.string l[k].1, .string l[k].2] 67)).heap.size = wr.heap.size + 1 := World.size_alloc _ _
      clear d0 hb
      generalize l[k] = f at *
      obtain ⟨fn, fv⟩ := f
      dsimp only at c1 c2 HN HB5 HI5 e5
      have HS2 := Kp.mk (show fn.size ≤ 100000 ∧ fv.size ≤ 100000 from HS.out)
      have HFS2 := Kp.mk (show (fLine fn fv).size ≤ fn.size + fv.size + 2 from HFS.out)
      clear HS HFS
      go_wp2_with fail
      refine (fline_any fn fv _ (by have := HS2.out.1; omega) (by have := HS2.out.2; omega)).mono ?_
      rintro e w6 ⟨rfl, hb6⟩
      have HI6 := Kp.mk (isb_below HI5.out hb6)
      have HB6 := Kp.mk (HB5.out.trans (hb6.mono (by rw [e5]; omega)))
      have hs6 : w.heap.size + 2 ≤ w6.heap.size := by have := hb6.size; rw [e5] at this; omega
      clear hb6 e5
      generalize fLine fn fv = x at *
      go_wp2_with fail
      refine (hadd_any (w.heap.size + 1) (w.heap.size + 1) _ x _ HI6.out (by have := HFS2.out; have := HS2.out.1; have := HS2.out.2; have := HPS.out k; omega) (by omega)).mono ?_
      rintro e w7 ⟨rfl, hi7, hb7⟩
      rw [← HN.out] at hi7
      have HI7 := Kp.mk hi7
      have HB7 := Kp.mk (HB6.out.trans (hb7.mono (by omega)))
      have hs7 : w.heap.size + 2 ≤ w7.heap.size := by have := hb7.size; omega
      clear hi7 hb7
      go_wp2_with fail
      go_roundw
      case rel => exact ⟨k + 1, by omega, by go_num, HI7.out, HB7.out, hs7⟩
      case measure => simp [intOf]; omega
    · obtain rfl : k = l.length := by omega
      go_wp2_with fail
      refine (hadd_any (w.heap.size + 1) (w.heap.size + 1) _ ⟨#[]⟩ _ HI.out (by have := HPS.out l.length; show _ + 0 ≤ _; omega) (by omega)).mono ?_
      rintro e w7 ⟨rfl, hi7, hb7⟩
      have HI7 := Kp.mk hi7
      have HB7 := Kp.mk (HB.out.trans (hb7.mono (by omega)))
      have hs7 : w.heap.size + 2 ≤ w7.heap.size := by have := hb7.size; omega
      clear hi7 hb7
      go_wp2_with fail
      refine (Tryz.Builder_String_any_k (w.heap.size + 1) (w.heap.size + 1) _ _ HI7.out (by omega)).mono ?_
      rintro e w8 ⟨rfl, -, h8, -⟩
      go_wp2_with fail
      go_ret
      exact ⟨by rw [HPT.out]; rfl, HB7.out.trans (h8.mono (by omega))⟩
def baQ (L : List UInt8) : ByteArray := ⟨L.toArray⟩
theorem baQ_size (L : List UInt8) : (baQ L).size = L.length := by simp [baQ, ba_size']
theorem baQ_app (L : List UInt8) (x : ByteArray) : baQ L ++ x = baQ (L ++ x.data.toList) := by
  apply ba_ext
  unfold baQ
  simp
theorem baQ_own (x : ByteArray) : x = baQ x.data.toList := by
  apply ba_ext
  unfold baQ
  simp
set_option maxRecDepth 100000 in
set_option maxHeartbeats 2000000 in
theorem rprint22_any (m t : ByteArray) (mi st : Int) (r : ByteArray) (v : Value) (l : List Fld) (w : World) (hv : RdF w v l) (hl : l.length ≤ 10000) (hz : ∀ p ∈ l, FldSm p) (hm : m.size ≤ 100000) (ht : t.size ≤ 100000) (hr : r.size ≤ 100000) (h0 : -9223372036854775808 ≤ st) (h1 : st ≤ 9223372036854775807) :
    Calls Tryz.prog 14 #[.agg #[.string m, .string t, .int .i64 mi, .int .i64 st, .string r, v]] w fun e w' => e = .returned (.string (prnB m t mi st r l)) ∧ Below w.heap.size w w' := by
  have HV := Kp.mk hv
  have HZ := Kp.mk hz
  have HPS := Kp.mk (fun k => prnL_size (mi := mi) (st := st) hm ht hr hl hz k)
  have HPT := Kp.mk (show prnB m t mi st r l = baQ (prnL m t mi st r l l.length ++ [13, 10]) from rfl)
  have HP0 := Kp.mk (show lineH m t mi st r ++ ⟨#[13, 10]⟩ = baQ (prnL m t mi st r l 0) by
    rw [baQ_own (lineH m t mi st r), baQ_app]
    unfold prnL flsL baQ
    simp)
  have HPN := Kp.mk (fun (k : Nat) (h : k < l.length) => show baQ (prnL m t mi st r l k) ++ fLine l[k].1 l[k].2 ++ ⟨#[13, 10]⟩ = baQ (prnL m t mi st r l (k + 1)) by
    rw [baQ_app, baQ_app]
    unfold prnL
    rw [flsL_take h, ← List.append_assoc, ← List.append_assoc])
  have HPE := Kp.mk (show baQ (prnL m t mi st r l l.length) ++ ⟨#[13, 10]⟩ = baQ (prnL m t mi st r l l.length ++ [13, 10]) from baQ_app _ _)
  obtain ⟨a, c, rfl, -, -, -⟩ := hv
  have HX0 := Kp.mk (heap_alloc_new w (.cells #[.string m, .string t, .int .i64 mi, .int .i64 st, .string r, .slice a l.length c] 29))
  have HB0 := Kp.mk ((Below.refl w.heap.size w).alloc (Nat.le_refl _) (.cells #[.string m, .string t, .int .i64 mi, .int .i64 st, .string r, .slice a l.length c] 29))
  have e1 : (w.alloc (.cells #[.string m, .string t, .int .i64 mi, .int .i64 st, .string r, .slice a l.length c] 29)).heap.size = w.heap.size + 1 := World.size_alloc _ _
  clear hz
  go_enter Tryz.func14, Tryz.ntmps14
  go_wp2_with fail
  refine (rline15_any m t mi st r a l.length c _ (by omega) (by omega) (by omega) h0 h1).mono ?_
  rintro e w3 ⟨rfl, hb3⟩
  have HX3 := Kp.mk ((hb3.block _ (blk_lt HX0.out)).trans HX0.out)
  have HB3 := Kp.mk (HB0.out.trans (hb3.mono (by rw [e1]; omega)))
  have HLZ := Kp.mk (lineH_size m t mi st r)
  have hlz : (lineH m t mi st r).size ≤ 300060 := by have := HLZ.out; omega
  clear hb3 HX0 HB0 e1
  generalize lineH m t mi st r = x0 at *
  go_wp2_with fail
  rw [HP0.out]
  go_loopw [3, 4] (fun ov i wr => ∃ k : Nat, k ≤ l.length ∧ i = .int .i64 k ∧ ov = .string (baQ (prnL m t mi st r l k)) ∧ wr.heap[w.heap.size]? = some (.cells #[.string m, .string t, .int .i64 mi, .int .i64 st, .string r, .slice a l.length c] 29 (0, 0)) ∧ Below w.heap.size w wr) (fun _ i _ => l.length - (intOf i).toNat)
  case atStart => exact ⟨0, by omega, rfl, rfl, HX3.out, HB3.out⟩
  case round =>
    obtain ⟨k, hk, rfl, rfl, hx, hb⟩ := hrel
    have HX := Kp.mk hx
    have HB := Kp.mk hb
    have c5 := blk_cell (i := 5) hx rfl
    have hps := HPS.out k
    have hbq := baQ_size (prnL m t mi st r l k)
    by_cases hlt : k < l.length
    · obtain ⟨g, o, rfl, hgl, d0⟩ := rdf_cells (HV.out.below hb) (by omega)
      obtain ⟨c1, c2⟩ := d0 k hlt
      have HS := Kp.mk (HZ.out _ (List.getElem_mem hlt))
      have HN := Kp.mk (HPN.out k hlt)
      have HFS := Kp.mk (fLine_size l[k].1 l[k].2)
      have q0 : (0 : Int) ≤ (k : Int) := by omega
      have q1 : (k : Int) < (l.length : Int) := by omega
      have hszw := hb.size
      clear d0 hb hx
      generalize l[k] = f at *
      obtain ⟨fn, fv⟩ := f
      dsimp only at c1 c2 HN
      have HS2 := Kp.mk (show fn.size ≤ 100000 ∧ fv.size ≤ 100000 from HS.out)
      have HFS2 := Kp.mk (show (fLine fn fv).size ≤ fn.size + fv.size + 2 from HFS.out)
      clear HS HFS
      go_wp2_with fail
      refine (rfline_any fn fv _ (by have := HS2.out.1; omega) (by have := HS2.out.2; omega)).mono ?_
      rintro e w6 ⟨rfl, hb6⟩
      have HX6 := Kp.mk ((hb6.block _ (blk_lt HX.out)).trans HX.out)
      have HB6 := Kp.mk (HB.out.trans (hb6.mono hszw))
      have hfz : (fLine fn fv).size ≤ 200002 := by have := HFS2.out; have := HS2.out.1; have := HS2.out.2; omega
      clear hb6 c5
      generalize fLine fn fv = x at *
      generalize baQ (prnL m t mi st r l k) = y at *
      go_wp2_with fail
      go_roundw
      case rel => exact ⟨k + 1, by omega, by go_num, by rw [← HN.out], HX6.out, HB6.out⟩
      case measure => simp [intOf]; omega
    · obtain rfl : k = l.length := by omega
      generalize baQ (prnL m t mi st r l l.length) = y at *
      go_wp2_with fail
      go_ret
      exact ⟨by rw [HPT.out, ← HPE.out]; rfl, HB.out⟩
end Go.Proofs.YtcbfhlnnfnpkdaaGreatDoor
