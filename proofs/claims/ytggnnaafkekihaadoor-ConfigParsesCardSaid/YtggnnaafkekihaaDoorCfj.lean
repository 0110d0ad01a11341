/- Settings (layer 13): the program's Parse (bin/mkcfj.py). -/
import Derived.Test.YtggnnaafkekihaaDoorCfi
import Derived.Deep.RegionHeld3
import Derived.Deep.MidRow
import Derived.Deep.DeepCutAuto
namespace Go.Proofs.YtggnnaafkekihaaDoor
open Go.RowKit
set_option linter.unusedVariables false
set_option linter.unusedSimpArgs false

theorem res_cfg {P : Program} {fn : Func} {p q : Tmp} {ty : TypeId} (h : fn.results = #[.cell p ty, .tmp q]) (tmps : Array Value) (w : World) (g : Nat) (t : TypeId) (cs : Array Value) (fr : Nat × Nat) (d : TypeDesc) (v : Value)
    (hp : tmps.getD p undef = .pointer (some ⟨g, 0, none⟩)) (hq : tmps.getD q undef = v) (hg : w.heap[g]? = some (.cells cs t fr))
    (hu : P.underlying ty = some d) (hd : (match d with | .struct _ | .array _ _ => true | _ => false) = true) (hi : (P.info? ty).map (·.size) = some cs.size) :
    (results fn tmps).run P w = .ok (.tuple #[.agg cs, v]) w := by
  have hp' : tmps[p]?.getD undef = .pointer (some ⟨g, 0, none⟩) := by simpa using hp
  have hq' : tmps[q]?.getD undef = v := by simpa using hq
  simp [results, h, hp', hq', asAddr, run_loadVar_row w g t ty cs fr d hg hu hd hi]
def cfZ : Array Value := #[.string ByteArray.empty, .string ByteArray.empty, .int .i64 0, .int .i64 0, .int .i64 0, .int .i64 0, .int .i64 0, .int .i64 0, .int .i64 0, .int .i64 0, .int .i64 0, .int .i64 0, .int .i64 0, .int .i64 0, .int .i64 0, .int .i64 0, .int .i64 0, .int .i64 0]
/-- What Parse tells, m the most a number is read as. -/
def PRet (m : Int) (s : ByteArray) (w : World) (e : Ending) (w' : World) : Prop :=
  Below w.heap.size w w' ∧ ((pOk m s = false ∧ e = .returned (.tuple #[.agg cfZ, .int .i64 3])) ∨
    (pOk m s = true ∧ ∃ c0 c1 c2 c3 c4 c5 c6 c7 c8 c9 c10 c11 c12 c13 c14 c15 : Int, pL m s = [c0, c1, c2, c3, c4, c5, c6, c7, c8, c9, c10, c11, c12, c13, c14, c15] ∧ e = .returned (.tuple #[.agg #[.string (pW s 0), .string (pA s), .int .i64 c0, .int .i64 c1, .int .i64 c2, .int .i64 c3, .int .i64 c4, .int .i64 c5, .int .i64 c6, .int .i64 c7, .int .i64 c8, .int .i64 c9, .int .i64 c10, .int .i64 c11, .int .i64 c12, .int .i64 c13, .int .i64 c14, .int .i64 c15], .int .i64 0])))
theorem PRet.yes {m : Int} {s : ByteArray} {w w' : World} {c0 c1 c2 c3 c4 c5 c6 c7 c8 c9 c10 c11 c12 c13 c14 c15 : Int} {x0 au : ByteArray} (hb : Below w.heap.size w w') (hk : pOk m s = true) (hL : pL m s = [c0, c1, c2, c3, c4, c5, c6, c7, c8, c9, c10, c11, c12, c13, c14, c15]) (h0 : pW s 0 = x0) (h1 : pA s = au) : PRet m s w (.returned (.tuple #[.agg #[.string (x0), .string (au), .int .i64 c0, .int .i64 c1, .int .i64 c2, .int .i64 c3, .int .i64 c4, .int .i64 c5, .int .i64 c6, .int .i64 c7, .int .i64 c8, .int .i64 c9, .int .i64 c10, .int .i64 c11, .int .i64 c12, .int .i64 c13, .int .i64 c14, .int .i64 c15], .int .i64 0])) w' := by
  subst h0 h1
  exact ⟨hb, .inr ⟨hk, _, _, _, _, _, _, _, _, _, _, _, _, _, _, _, _, hL, rfl⟩⟩
theorem PRet.no {m : Int} {s : ByteArray} {w w' : World} (hb : Below w.heap.size w w') (hk : pOk m s = false) : PRet m s w (.returned (.tuple #[.agg cfZ, .int .i64 3])) w' := ⟨hb, .inl ⟨hk, rfl⟩⟩
theorem split13_x (s : ByteArray) (w : World) (hs : s.size ≤ 100000) :
    Calls Tryd.prog 7 #[.string s, .string ⟨#[32]⟩] w fun e w' => ∃ b, e = .returned (.slice (some ⟨b, 0, none⟩) (wdK s).length (wdK s).length) ∧ w'.heap[b]? = some (.cells ((wdK s).map Value.string).toArray 9 (0, 0)) ∧ w.heap.size ≤ b ∧ Below w.heap.size w w' :=
  (split13_any s w hs).mono fun e w' ⟨h1, h2⟩ => ⟨w.heap.size, h1, by rw [h2]; exact heap_alloc_new w _, Nat.le_refl _, by rw [h2]; exact (Below.refl _ w).alloc (Nat.le_refl _) _⟩
/-- The row of numbers when k are read. -/
def nuA (L : List Int) (k : Nat) : Array Value := ((List.range 16).map fun j => Value.int .i64 (if j < k then L.getD j 0 else 0)).toArray
theorem nuA_set (L : List Int) (k : Nat) : (nuA L k).setIfInBounds k (.int .i64 (L.getD k 0)) = nuA L (k + 1) := by
  unfold nuA
  apply Array.ext'
  rw [Array.toList_setIfInBounds]
  simp only [List.toList_toArray]
  refine List.ext_getElem (by simp) fun j h1 h2 => ?_
  rw [List.getElem_set]
  simp only [List.getElem_map, List.getElem_range]
  by_cases e : k = j
  · subst e
    rw [if_pos rfl, if_pos (Nat.lt_succ_self _)]
  · rw [if_neg e]
    by_cases e2 : j < k
    · rw [if_pos e2, if_pos (by omega)]
    · rw [if_neg e2, if_neg (by omega)]
theorem nuA_size (L : List Int) (k : Nat) : (nuA L k).size = 16 := by simp [nuA]
theorem sixteen {L : List Int} (h : L.length = 16) : ∃ c0 c1 c2 c3 c4 c5 c6 c7 c8 c9 c10 c11 c12 c13 c14 c15 : Int, L = [c0, c1, c2, c3, c4, c5, c6, c7, c8, c9, c10, c11, c12, c13, c14, c15] := by
  match L, h with
  | [c0, c1, c2, c3, c4, c5, c6, c7, c8, c9, c10, c11, c12, c13, c14, c15], _ => exact ⟨c0, c1, c2, c3, c4, c5, c6, c7, c8, c9, c10, c11, c12, c13, c14, c15, rfl⟩
/-- The blocks that Parse keeps. -/
structure CpS (b0 bW gN : Nat) (D : List ByteArray) (N : Array Value) (w wr : World) : Prop where
  bel : Below w.heap.size w wr
  z : wr.heap[b0]? = some (.cells cfZ 25 (0, 0))
  wd : wr.heap[bW]? = some (.cells (D.map Value.string).toArray 9 (0, 0))
  n : wr.heap[gN]? = some (.cells N 33 (0, 0))
  d1 : b0 ≠ gN
  d2 : bW ≠ gN
  l0 : w.heap.size ≤ b0
  ln : w.heap.size ≤ gN
theorem CpS.next {b0 bW gN : Nat} {D : List ByteArray} {N : Array Value} {w wr w2 : World} (h : CpS b0 bW gN D N w wr) (hb : Below wr.heap.size wr w2) : CpS b0 bW gN D N w w2 :=
  ⟨h.bel.trans (hb.mono h.bel.size), (hb.block _ (blk_lt h.z)).trans h.z, (hb.block _ (blk_lt h.wd)).trans h.wd, (hb.block _ (blk_lt h.n)).trans h.n, h.d1, h.d2, h.l0, h.ln⟩
theorem CpS.set {b0 bW gN : Nat} {D : List ByteArray} {N : Array Value} {w wr : World} (h : CpS b0 bW gN D N w wr) (k : Nat) (v : Value) : CpS b0 bW gN D (N.setIfInBounds k v) w (wr.setCell ⟨gN, k, none⟩ v) :=
  ⟨h.bel.setCell h.ln v, blk_set_other h.z h.d1 v, blk_set_other h.wd h.d2 v, blk_set h.n v, h.d1, h.d2, h.l0, h.ln⟩
theorem CpS.le {b0 bW gN : Nat} {D : List ByteArray} {N : Array Value} {w wr : World} (h : CpS b0 bW gN D N w wr) : w.heap.size ≤ wr.heap.size ∧ b0 < wr.heap.size ∧ bW < wr.heap.size ∧ gN < wr.heap.size := ⟨h.bel.size, blk_lt h.z, blk_lt h.wd, blk_lt h.n⟩
theorem CpS.setRow {b0 bW gN b8 : Nat} {D : List ByteArray} {N : Array Value} {w wr : World} {cs : Array Value} (h : CpS b0 bW gN D N w wr) (hl : w.heap.size ≤ b8 ∧ b0 < b8 ∧ bW < b8 ∧ gN < b8) : CpS b0 bW gN D N w (wr.setRow b8 cs) :=
  ⟨below_setRow h.bel hl.1 cs, (cf_setRow_other _ wr (by omega)).trans h.z, (cf_setRow_other _ wr (by omega)).trans h.wd, (cf_setRow_other _ wr (by omega)).trans h.n, h.d1, h.d2, h.l0, h.ln⟩
theorem pW_at {s : ByteArray} {k : Nat} (h : k < (wdK s).length) : ((wdK s).map Value.string).toArray[k]? = some (.string (pW s k)) := by
  unfold pW
  simp [List.getElem?_map, List.getD_eq_getElem?_getD, List.getElem?_eq_getElem h]
theorem pL_at {m : Int} {s : ByteArray} {k : Nat} (h : k + 2 < (wdK s).length) : (pL m s).getD k 0 = numV 10 (pW s (k + 2)) m := by
  unfold pL pW
  rw [List.getD_eq_getElem?_getD, List.getElem?_map, List.getElem?_drop, Nat.add_comm 2 k, List.getElem?_eq_getElem h, List.getD_eq_getElem?_getD, List.getElem?_eq_getElem h]
  rfl
theorem pL_len {m : Int} {s : ByteArray} : (pL m s).length = (wdK s).length - 2 := by unfold pL; rw [List.length_map, List.length_drop]
theorem pW_size {s : ByteArray} (k : Nat) : (pW s k).size ≤ s.size := by
  unfold pW
  rw [List.getD_eq_getElem?_getD]
  cases h : (wdK s)[k]? with
  | none => exact Nat.zero_le _
  | some x => exact wdK_mem (List.mem_of_getElem? h)
set_option maxRecDepth 100000 in
set_option maxHeartbeats 4000000 in
theorem cf_parse (s : ByteArray) (w : World) (hs : s.size ≤ 1000) :
    Calls Tryd.prog 4 #[.string s] w (PRet 2147483647 s w) := by
  have HZ := Kp.mk (heap_alloc_new w (.cells #[.string ByteArray.empty, .string ByteArray.empty, .int .i64 0, .int .i64 0, .int .i64 0, .int .i64 0, .int .i64 0, .int .i64 0, .int .i64 0, .int .i64 0, .int .i64 0, .int .i64 0, .int .i64 0, .int .i64 0, .int .i64 0, .int .i64 0, .int .i64 0, .int .i64 0] 25))
  have HB0 := Kp.mk ((Below.refl w.heap.size w).alloc (Nat.le_refl _) (.cells #[.string ByteArray.empty, .string ByteArray.empty, .int .i64 0, .int .i64 0, .int .i64 0, .int .i64 0, .int .i64 0, .int .i64 0, .int .i64 0, .int .i64 0, .int .i64 0, .int .i64 0, .int .i64 0, .int .i64 0, .int .i64 0, .int .i64 0, .int .i64 0, .int .i64 0] 25))
  go_enter Tryd.func4, Tryd.ntmps4
  go_wp2_with fail
  refine (split13_x s _ (by omega)).mono ?_
  rintro e w1 ⟨bW, rfl, hwd, hbW, hb1⟩
  have hsa : (w.alloc (.cells #[.string ByteArray.empty, .string ByteArray.empty, .int .i64 0, .int .i64 0, .int .i64 0, .int .i64 0, .int .i64 0, .int .i64 0, .int .i64 0, .int .i64 0, .int .i64 0, .int .i64 0, .int .i64 0, .int .i64 0, .int .i64 0, .int .i64 0, .int .i64 0, .int .i64 0] 25)).heap.size = w.heap.size + 1 := World.size_alloc _ _
  replace hbW : w.heap.size + 1 ≤ bW := by rw [← hsa]; exact hbW
  have HZ1 := Kp.mk ((hb1.block _ (blk_lt HZ.out)).trans HZ.out)
  have HB1 := Kp.mk (HB0.out.trans (hb1.mono (show w.heap.size ≤ (w.alloc (.cells #[.string ByteArray.empty, .string ByteArray.empty, .int .i64 0, .int .i64 0, .int .i64 0, .int .i64 0, .int .i64 0, .int .i64 0, .int .i64 0, .int .i64 0, .int .i64 0, .int .i64 0, .int .i64 0, .int .i64 0, .int .i64 0, .int .i64 0, .int .i64 0, .int .i64 0] 25)).heap.size by rw [hsa]; omega)))
  have HWD := Kp.mk hwd
  have hsz1 := HB1.out.size
  have hbz := blk_lt hwd
  clear hwd hb1 HZ HB0 hsa
  by_cases h18 : (wdK s).length = 18
  · have HD := Kp.mk h18
    have HST := Kp.mk (show CpS w.heap.size bW w1.heap.size (wdK s) (nuA (pL 2147483647 s) 0) w (w1.alloc (.cells #[.int .i64 0, .int .i64 0, .int .i64 0, .int .i64 0, .int .i64 0, .int .i64 0, .int .i64 0, .int .i64 0, .int .i64 0, .int .i64 0, .int .i64 0, .int .i64 0, .int .i64 0, .int .i64 0, .int .i64 0, .int .i64 0] 33)) from
      ⟨HB1.out.alloc (by omega) _, blk_alloc HZ1.out, blk_alloc HWD.out, heap_alloc_new w1 _, by omega, by omega, by omega, by omega⟩)
    rw [h18]
    clear h18
    go_upto_region 5 with fail
    generalize (w1.alloc (.cells #[.int .i64 0, .int .i64 0, .int .i64 0, .int .i64 0, .int .i64 0, .int .i64 0, .int .i64 0, .int .i64 0, .int .i64 0, .int .i64 0, .int .i64 0, .int .i64 0, .int .i64 0, .int .i64 0, .int .i64 0, .int .i64 0] 33)) = w2 at *
    generalize w1.heap.size = gN at *
    clear HZ1 HB1 HWD hsz1 hbz
    go_wp2_with fail
    go_loopw [15] (fun i wr => ∃ k : Nat, k ≤ 16 ∧ i = .int .i64 k ∧ CpS w.heap.size bW gN (wdK s) (nuA (pL 2147483647 s) k) w wr) (fun i _ => 16 - (intOf i).toNat)
    case atStart => exact ⟨0, by omega, rfl, HST.out⟩
    case round =>
      obtain ⟨k, hk, rfl, hst⟩ := hrel
      have HS := Kp.mk hst
      by_cases hlt : k < 16
      · have hwr : IntKind.i64.wrap ((k : Int) + 2) = ((k + 2 : Nat) : Int) := by
          simp [IntKind.wrap, IntKind.signed, IntKind.bits, wrap64]; omega
        have q0 : (0 : Int) ≤ (k : Int) := by omega
        have q1 : (k : Int) < 16 := by omega
        have q2 : ((k + 2 : Nat) : Int) < 18 := by omega
        have q3 : (0 : Int) ≤ ((k + 2 : Nat) : Int) := by omega
        have e1 : wr.cell? ⟨bW, k + 2, none⟩ = some (.string (pW s (k + 2))) := blk_cell hst.wd (pW_at (by rw [HD.out]; omega))
        have HNX := Kp.mk (show numV 10 (pW s (k + 2)) 2147483647 = (pL 2147483647 s).getD k 0 from (pL_at (by rw [HD.out]; omega)).symm)
        have hxz : (pW s (k + 2)).size ≤ 1000 := Nat.le_trans (pW_size _) hs
        generalize pW s (k + 2) = x at *
        clear hst
        go_wp2_with fail
        refine (dec_any x 2147483647 _ (by unfold maxLen; omega) (by omega) (by omega)).mono ?_
        rintro e w5 ⟨rfl, hb5⟩
        have H5 := Kp.mk (HS.out.next hb5)
        rw [HNX.out]
        have f5 := blk_free (i := k) H5.out.n
        obtain ⟨vv, hvv⟩ : ∃ vv, (nuA (pL 2147483647 s) k)[k]? = some vv := ⟨_, Array.getElem?_eq_getElem (by rw [nuA_size]; exact hlt)⟩
        have e5 := blk_cell (i := k) H5.out.n hvv
        have H6 := Kp.mk (H5.out.set k (.int .i64 ((pL 2147483647 s).getD k 0)))
        clear hb5 e1 hvv
        go_wp2_with fail
        go_roundw
        case rel => exact ⟨k + 1, by omega, by go_num, by rw [← nuA_set]; exact H6.out⟩
        case measure => simp [intOf] <;> omega
      · obtain rfl : k = 16 := by omega
        have HL := Kp.mk (show (pL 2147483647 s).length = 16 by rw [pL_len, HD.out])
        obtain ⟨c0, c1, c2, c3, c4, c5, c6, c7, c8, c9, c10, c11, c12, c13, c14, c15, hL⟩ := sixteen HL.out
        have HLL := Kp.mk hL
        have HST := Kp.mk (show CpS w.heap.size bW gN (wdK s) #[.int .i64 c0, .int .i64 c1, .int .i64 c2, .int .i64 c3, .int .i64 c4, .int .i64 c5, .int .i64 c6, .int .i64 c7, .int .i64 c8, .int .i64 c9, .int .i64 c10, .int .i64 c11, .int .i64 c12, .int .i64 c13, .int .i64 c14, .int .i64 c15] w wr from by
          have := hst
          rw [hL] at this
          exact this)
        clear hst HS hlt hk hL HL
        have e1 : wr.cell? ⟨bW, 1, none⟩ = some (.string (pW s 1)) := blk_cell HST.out.wd (pW_at (by rw [HD.out]; omega))
        have HX0 := Kp.mk (show ((wdK s).map Value.string).toArray[0]? = some (.string (pW s 0)) from pW_at (by rw [HD.out]; omega))
        have hz0 : (pW s 0).size ≤ 1000 := Nat.le_trans (pW_size _) hs
        have hz1 : (pW s 1).size ≤ 1000 := Nat.le_trans (pW_size _) hs
        have HAU := Kp.mk (show pA s = if pW s 1 = ⟨#[45]⟩ then ⟨#[]⟩ else pW s 1 from rfl)
        have HOK := Kp.mk (show pOk 2147483647 s = decide (cfT (pW s 0) (pA s) [c0, c1, c2, c3, c4, c5, c6, c7, c8, c9, c10, c11, c12, c13, c14, c15] = s) from by
          unfold pOk; rw [HD.out, HLL.out]; simp)
        have HX0E := Kp.mk (show pW s 0 = pW s 0 from rfl)
        generalize hx0 : pW s 0 = x0 at HX0 hz0 HOK
        replace HX0E := Kp.mk hx0
        generalize hy0 : pW s 1 = y at e1 hz1 HAU
        clear hx0 hy0
        by_cases hy : y = ⟨#[45]⟩
        · subst hy
          have HPA := Kp.mk (show pA s = ⟨#[]⟩ by rw [HAU.out, if_pos rfl])
          clear HAU
          go_upto_region 13 with fail
          clear e1
          go_cut [8] (fun s8 wx => ∃ b8 : Nat, s8 = .pointer (some ⟨b8, 0, none⟩) ∧ CpS w.heap.size bW gN (wdK s) #[.int .i64 c0, .int .i64 c1, .int .i64 c2, .int .i64 c3, .int .i64 c4, .int .i64 c5, .int .i64 c6, .int .i64 c7, .int .i64 c8, .int .i64 c9, .int .i64 c10, .int .i64 c11, .int .i64 c12, .int .i64 c13, .int .i64 c14, .int .i64 c15] w wx ∧ wx.heap[b8]? = some (.cells #[.string (x0), .string ((⟨#[]⟩ : ByteArray)), .int .i64 c0, .int .i64 c1, .int .i64 c2, .int .i64 c3, .int .i64 c4, .int .i64 c5, .int .i64 c6, .int .i64 c7, .int .i64 c8, .int .i64 c9, .int .i64 c10, .int .i64 c11, .int .i64 c12, .int .i64 c13, .int .i64 c14, .int .i64 c15] 25 (0, 0)) ∧ (w.heap.size ≤ b8 ∧ w.heap.size < b8 ∧ bW < b8 ∧ gN < b8))
          case first =>
            replace HST := Kp.mk (HST.out.next (Below.refl _ wr).drew)
            refine wp_region_held_drew (S := fun w' => w'.cell? ⟨bW, 0, none⟩ = some (.string x0) ∧ w'.rangeAt gN 0 [.int .i64 c0, .int .i64 c1, .int .i64 c2, .int .i64 c3, .int .i64 c4, .int .i64 c5, .int .i64 c6, .int .i64 c7, .int .i64 c8, .int .i64 c9, .int .i64 c10, .int .i64 c11, .int .i64 c12, .int .i64 c13, .int .i64 c14, .int .i64 c15]) (by kernel_rfl) (⟨blk_cell (i := 0) HST.out.wd (by rw [HX0.out]), fun j v hv => by rw [Nat.zero_add]; exact blk_cell HST.out.n (by simpa using hv)⟩) (fun hHeld => ?_)
            generalize wr.drew = WR0 at *
            refine wpAnyH_take (i := 0) (oi := ⟨some 35, .move (.tmp 4), _, _, _, none⟩) (v := ?_) rfl (by kernel_rfl) (by kernel_rfl) (by kernel_rfl) (fun _ _ _ h => h) (Or.inl ⟨by rfl, ?_⟩) (by assumption) ?_
            rotate_left
            · intro w hSw
              try dsimp only at hSw
              go_simp
              try with_reducible rfl
            try simp only [Act.put, List.setIfInBounds_toArray, List.set_cons_zero, List.set_cons_succ]
            refine wpAnyH_take (i := 1) (oi := ⟨some 36, .indexAddr 31 (.tmp 35) (.const (.int .i64 0)), _, _, _, none⟩) (v := ?_) rfl (by kernel_rfl) (by kernel_rfl) (by kernel_rfl) (fun _ _ _ h => h) (Or.inl ⟨by rfl, ?_⟩) (by assumption) ?_
            rotate_left
            · intro w hSw
              try dsimp only at hSw
              go_simp
              try with_reducible rfl
            try simp only [Act.put, List.setIfInBounds_toArray, List.set_cons_zero, List.set_cons_succ]
            refine wpAnyH_take (i := 2) (oi := ⟨some 37, .load 9 (.tmp 36), _, _, _, none⟩) (v := ?_) rfl (by kernel_rfl) (by kernel_rfl) (by kernel_rfl) (fun _ _ _ h => h) (Or.inl ⟨by rfl, ?_⟩) (by assumption) ?_
            rotate_left
            · intro w hSw
              try dsimp only at hSw
              go_simp
              try with_reducible rfl
            try simp only [Act.put, List.setIfInBounds_toArray, List.set_cons_zero, List.set_cons_succ]
            refine wpAnyH_take (i := 3) (oi := ⟨some 38, .move (.tmp 7), _, _, _, none⟩) (v := ?_) rfl (by kernel_rfl) (by kernel_rfl) (by kernel_rfl) (fun _ _ _ h => h) (Or.inl ⟨by rfl, ?_⟩) (by assumption) ?_
            rotate_left
            · intro w hSw
              try dsimp only at hSw
              go_simp
              try with_reducible rfl
            try simp only [Act.put, List.setIfInBounds_toArray, List.set_cons_zero, List.set_cons_succ]
            refine wpAnyH_take (i := 4) (oi := ⟨some 39, .load 33 (.tmp 5), _, _, _, none⟩) (v := .agg #[.int .i64 c0, .int .i64 c1, .int .i64 c2, .int .i64 c3, .int .i64 c4, .int .i64 c5, .int .i64 c6, .int .i64 c7, .int .i64 c8, .int .i64 c9, .int .i64 c10, .int .i64 c11, .int .i64 c12, .int .i64 c13, .int .i64 c14, .int .i64 c15]) rfl (by kernel_rfl) (by kernel_rfl) (by kernel_rfl) (fun _ _ _ h => h) (yieldsIf_load_mid (by rfl) _ _ rfl gN 0 rfl [.int .i64 c0, .int .i64 c1, .int .i64 c2, .int .i64 c3, .int .i64 c4, .int .i64 c5, .int .i64 c6, .int .i64 c7, .int .i64 c8, .int .i64 c9, .int .i64 c10, .int .i64 c11, .int .i64 c12, .int .i64 c13, .int .i64 c14, .int .i64 c15] _ (fun w9 hw9 => hw9.2) Tryd.underlying33 rfl (by kernel_rfl)) (by assumption) ?_
            try simp only [Act.put, List.setIfInBounds_toArray, List.set_cons_zero, List.set_cons_succ]
            refine wpAnyH_ready (rs := [5, 6]) (by kernel_rfl) (by simp) ?_
            refine AllReadyH.cons (o := ⟨some 40, _, _, _, _, none⟩) rfl (fun K hK => ?_) ?_
            ·   go_simp
                (go_at_call 9; refine (cf_made x0 (⟨#[]⟩ : ByteArray) c0 c1 c2 c3 c4 c5 c6 c7 c8 c9 c10 c11 c12 c13 c14 c15 _).mono ?_; rintro e wm ⟨rfl, hbm⟩)
                try go_wp2_with fail
                have HM := Kp.mk (HST.out.next hbm)
                clear hbm
                refine hK.out _ _ (⟨blk_cell (i := 0) HM.out.wd (by rw [HX0.out]), fun j v hv => by rw [Nat.zero_add]; exact blk_cell HM.out.n (by simpa using hv)⟩) (fun hHeld2 => ?_)
                clear hK K
                try simp only [Act.put, List.setIfInBounds_toArray, List.set_cons_zero, List.set_cons_succ]
                refine wpAnyH_ready (rs := [6]) (by kernel_rfl) (by simp) ?_
                refine AllReadyH.cons (o := ⟨some 8, _, _, _, _, none⟩) rfl (fun K hK => ?_) AllReadyH.nil
                go_simp
                have HA := Kp.mk (HM.out.next ((Below.refl _ wm).alloc (Nat.le_refl _) (.cells #[.string ⟨#[]⟩, .string ⟨#[]⟩, .int .i64 0, .int .i64 0, .int .i64 0, .int .i64 0, .int .i64 0, .int .i64 0, .int .i64 0, .int .i64 0, .int .i64 0, .int .i64 0, .int .i64 0, .int .i64 0, .int .i64 0, .int .i64 0, .int .i64 0, .int .i64 0] 25)))
                have HN := Kp.mk (heap_alloc_new wm (.cells #[.string ⟨#[]⟩, .string ⟨#[]⟩, .int .i64 0, .int .i64 0, .int .i64 0, .int .i64 0, .int .i64 0, .int .i64 0, .int .i64 0, .int .i64 0, .int .i64 0, .int .i64 0, .int .i64 0, .int .i64 0, .int .i64 0, .int .i64 0, .int .i64 0, .int .i64 0] 25))
                have HLE := Kp.mk (HM.out.le)
                refine hK.out _ _ (⟨blk_cell (i := 0) HA.out.wd (by rw [HX0.out]), fun j v hv => by rw [Nat.zero_add]; exact blk_cell HA.out.n (by simpa using hv)⟩) (fun hHeld2 => ?_)
                clear hK K
                try simp only [Act.put, List.setIfInBounds_toArray, List.set_cons_zero, List.set_cons_succ]
                generalize (wm.alloc (.cells #[.string ⟨#[]⟩, .string ⟨#[]⟩, .int .i64 0, .int .i64 0, .int .i64 0, .int .i64 0, .int .i64 0, .int .i64 0, .int .i64 0, .int .i64 0, .int .i64 0, .int .i64 0, .int .i64 0, .int .i64 0, .int .i64 0, .int .i64 0, .int .i64 0, .int .i64 0] 25)) = wa at *
                generalize wm.heap.size = b8 at *
                refine wpAnyH_ready (rs := [7]) (by kernel_rfl) (by simp) ?_
                refine AllReadyH.cons (o := ⟨none, _, _, _, _, none⟩) rfl (fun K hK => ?_) AllReadyH.nil
                refine wp_store_row _ _ _ (by rfl) _ #[.string (x0), .string ((⟨#[]⟩ : ByteArray)), .int .i64 c0, .int .i64 c1, .int .i64 c2, .int .i64 c3, .int .i64 c4, .int .i64 c5, .int .i64 c6, .int .i64 c7, .int .i64 c8, .int .i64 c9, .int .i64 c10, .int .i64 c11, .int .i64 c12, .int .i64 c13, .int .i64 c14, .int .i64 c15] (by rfl) (by rfl) _ _ HN.out (by kernel_rfl) rfl (by simp [Value.oneCell']) ?_
                simp only [Act.put]
                have HS2 := Kp.mk (HA.out.setRow (b8 := b8) (cs := #[.string (x0), .string ((⟨#[]⟩ : ByteArray)), .int .i64 c0, .int .i64 c1, .int .i64 c2, .int .i64 c3, .int .i64 c4, .int .i64 c5, .int .i64 c6, .int .i64 c7, .int .i64 c8, .int .i64 c9, .int .i64 c10, .int .i64 c11, .int .i64 c12, .int .i64 c13, .int .i64 c14, .int .i64 c15]) HLE.out)
                have HR := Kp.mk (setRow_heap _ _ _ (#[.string (x0), .string ((⟨#[]⟩ : ByteArray)), .int .i64 c0, .int .i64 c1, .int .i64 c2, .int .i64 c3, .int .i64 c4, .int .i64 c5, .int .i64 c6, .int .i64 c7, .int .i64 c8, .int .i64 c9, .int .i64 c10, .int .i64 c11, .int .i64 c12, .int .i64 c13, .int .i64 c14, .int .i64 c15] : Array Value) _ _ HN.out)
                refine hK.out _ _ (⟨blk_cell (i := 0) HS2.out.wd (by rw [HX0.out]), fun j v hv => by rw [Nat.zero_add]; exact blk_cell HS2.out.n (by simpa using hv)⟩) (fun hHeld2 => ?_)
                clear hK K
                refine wpAnyH_done (by kernel_rfl) ?_ _
                try go_wp2_with fail
                try go_meet
                exact ⟨b8, rfl, HS2.out, HR.out, HLE.out⟩
            ·   refine AllReadyH.cons (o := ⟨some 8, _, _, _, _, none⟩) rfl (fun K hK => ?_) AllReadyH.nil
                go_simp
                have HA := Kp.mk (HST.out.next ((Below.refl _ _).alloc (Nat.le_refl _) (.cells #[.string ⟨#[]⟩, .string ⟨#[]⟩, .int .i64 0, .int .i64 0, .int .i64 0, .int .i64 0, .int .i64 0, .int .i64 0, .int .i64 0, .int .i64 0, .int .i64 0, .int .i64 0, .int .i64 0, .int .i64 0, .int .i64 0, .int .i64 0, .int .i64 0, .int .i64 0] 25)))
                have HN0 := Kp.mk (heap_alloc_new WR0 (.cells #[.string ⟨#[]⟩, .string ⟨#[]⟩, .int .i64 0, .int .i64 0, .int .i64 0, .int .i64 0, .int .i64 0, .int .i64 0, .int .i64 0, .int .i64 0, .int .i64 0, .int .i64 0, .int .i64 0, .int .i64 0, .int .i64 0, .int .i64 0, .int .i64 0, .int .i64 0] 25))
                have HLE := Kp.mk (HST.out.le)
                refine hK.out _ _ (⟨blk_cell (i := 0) HA.out.wd (by rw [HX0.out]), fun j v hv => by rw [Nat.zero_add]; exact blk_cell HA.out.n (by simpa using hv)⟩) (fun hHeld2 => ?_)
                clear hK K
                try simp only [Act.put, List.setIfInBounds_toArray, List.set_cons_zero, List.set_cons_succ]
                generalize (WR0.alloc (.cells #[.string ⟨#[]⟩, .string ⟨#[]⟩, .int .i64 0, .int .i64 0, .int .i64 0, .int .i64 0, .int .i64 0, .int .i64 0, .int .i64 0, .int .i64 0, .int .i64 0, .int .i64 0, .int .i64 0, .int .i64 0, .int .i64 0, .int .i64 0, .int .i64 0, .int .i64 0] 25)) = wb at *
                generalize WR0.heap.size = b8 at *
                refine wpAnyH_ready (rs := [5]) (by kernel_rfl) (by simp) ?_
                refine AllReadyH.cons (o := ⟨some 40, _, _, _, _, none⟩) rfl (fun K hK => ?_) AllReadyH.nil
                go_simp
                (go_at_call 9; refine (cf_made x0 (⟨#[]⟩ : ByteArray) c0 c1 c2 c3 c4 c5 c6 c7 c8 c9 c10 c11 c12 c13 c14 c15 _).mono ?_; rintro e wa ⟨rfl, hbm⟩)
                try go_wp2_with fail
                have HN := Kp.mk ((hbm.block _ (blk_lt HN0.out)).trans HN0.out)
                replace HA := Kp.mk (HA.out.next hbm)
                clear hbm
                refine hK.out _ _ (⟨blk_cell (i := 0) HA.out.wd (by rw [HX0.out]), fun j v hv => by rw [Nat.zero_add]; exact blk_cell HA.out.n (by simpa using hv)⟩) (fun hHeld2 => ?_)
                clear hK K
                try simp only [Act.put, List.setIfInBounds_toArray, List.set_cons_zero, List.set_cons_succ]
                refine wpAnyH_ready (rs := [7]) (by kernel_rfl) (by simp) ?_
                refine AllReadyH.cons (o := ⟨none, _, _, _, _, none⟩) rfl (fun K hK => ?_) AllReadyH.nil
                refine wp_store_row _ _ _ (by rfl) _ #[.string (x0), .string ((⟨#[]⟩ : ByteArray)), .int .i64 c0, .int .i64 c1, .int .i64 c2, .int .i64 c3, .int .i64 c4, .int .i64 c5, .int .i64 c6, .int .i64 c7, .int .i64 c8, .int .i64 c9, .int .i64 c10, .int .i64 c11, .int .i64 c12, .int .i64 c13, .int .i64 c14, .int .i64 c15] (by rfl) (by rfl) _ _ HN.out (by kernel_rfl) rfl (by simp [Value.oneCell']) ?_
                simp only [Act.put]
                have HS2 := Kp.mk (HA.out.setRow (b8 := b8) (cs := #[.string (x0), .string ((⟨#[]⟩ : ByteArray)), .int .i64 c0, .int .i64 c1, .int .i64 c2, .int .i64 c3, .int .i64 c4, .int .i64 c5, .int .i64 c6, .int .i64 c7, .int .i64 c8, .int .i64 c9, .int .i64 c10, .int .i64 c11, .int .i64 c12, .int .i64 c13, .int .i64 c14, .int .i64 c15]) HLE.out)
                have HR := Kp.mk (setRow_heap _ _ _ (#[.string (x0), .string ((⟨#[]⟩ : ByteArray)), .int .i64 c0, .int .i64 c1, .int .i64 c2, .int .i64 c3, .int .i64 c4, .int .i64 c5, .int .i64 c6, .int .i64 c7, .int .i64 c8, .int .i64 c9, .int .i64 c10, .int .i64 c11, .int .i64 c12, .int .i64 c13, .int .i64 c14, .int .i64 c15] : Array Value) _ _ HN.out)
                refine hK.out _ _ (⟨blk_cell (i := 0) HS2.out.wd (by rw [HX0.out]), fun j v hv => by rw [Nat.zero_add]; exact blk_cell HS2.out.n (by simpa using hv)⟩) (fun hHeld2 => ?_)
                clear hK K
                refine wpAnyH_done (by kernel_rfl) ?_ _
                try go_wp2_with fail
                try go_meet
                exact ⟨b8, rfl, HS2.out, HR.out, HLE.out⟩
          case rest =>
            obtain ⟨b8, rfl, hS, hR, hl⟩ := hcut
            have HS := Kp.mk hS
            have HR := Kp.mk hR
            have HL8 := Kp.mk hl
            clear hS hR hl HST
            go_upto_region 14 with fail
            repeat ((fail_if_success (with_reducible show Oper.wp _ (Oper.mk _ (.load _ _) _ _ _ _) _ _ _ _)); go_step)
            refine wp_load_row _ _ (by rfl) b8 (by rfl) _ _ _ _ HR.out Tryd.underlying25 rfl (by kernel_rfl) ?_
            simp only [Act.put]
            go_wp2_with fail
            refine (cf_print x0 (⟨#[]⟩ : ByteArray) c0 c1 c2 c3 c4 c5 c6 c7 c8 c9 c10 c11 c12 c13 c14 c15 _ hz0 (by first | exact hz1 | decide)).mono ?_
            rintro e w6 ⟨rfl, hb6⟩
            rw [HPA.out] at HOK
            replace HS := Kp.mk (HS.out.next hb6)
            replace HR := Kp.mk ((hb6.block _ (blk_lt HR.out)).trans HR.out)
            clear hb6
            generalize hTx : cfT x0 (⟨#[]⟩ : ByteArray) [c0, c1, c2, c3, c4, c5, c6, c7, c8, c9, c10, c11, c12, c13, c14, c15] = Tx at *
            by_cases hT : Tx = s
            · have HK := Kp.mk (show pOk 2147483647 s = true by rw [HOK.out, decide_eq_true hT])
              clear HOK
              rw [hT]
              go_upto_region 16 with fail
              repeat ((fail_if_success (with_reducible show Oper.wp _ (Oper.mk _ (.load _ _) _ _ _ _) _ _ _ _)); go_step)
              refine wp_load_row _ _ (by rfl) b8 (by rfl) _ _ _ _ HR.out Tryd.underlying25 rfl (by kernel_rfl) ?_
              simp only [Act.put]
              repeat ((fail_if_success (with_reducible show Oper.wp _ (Oper.mk _ (.store _ _ _) _ _ _ _) _ _ _ _)); go_step)
              refine wp_store_row _ _ _ (by rfl) _ #[.string (x0), .string ((⟨#[]⟩ : ByteArray)), .int .i64 c0, .int .i64 c1, .int .i64 c2, .int .i64 c3, .int .i64 c4, .int .i64 c5, .int .i64 c6, .int .i64 c7, .int .i64 c8, .int .i64 c9, .int .i64 c10, .int .i64 c11, .int .i64 c12, .int .i64 c13, .int .i64 c14, .int .i64 c15] (by rfl) (by rfl) _ _ HS.out.z (by kernel_rfl) rfl (by simp [Value.oneCell']) ?_
              go_wp2_with fail
              refine bodyPost_ret (v := .tuple #[.agg #[.string (x0), .string ((⟨#[]⟩ : ByteArray)), .int .i64 c0, .int .i64 c1, .int .i64 c2, .int .i64 c3, .int .i64 c4, .int .i64 c5, .int .i64 c6, .int .i64 c7, .int .i64 c8, .int .i64 c9, .int .i64 c10, .int .i64 c11, .int .i64 c12, .int .i64 c13, .int .i64 c14, .int .i64 c15], .int .i64 0]) ?_ rfl (PRet.yes (below_setRow HS.out.bel (Nat.le_refl _) _) HK.out HLL.out HX0E.out HPA.out)
              exact res_cfg (p := 2) (q := 3) (ty := 25) (by kernel_rfl) _ _ w.heap.size _ _ _ _ _ (by rfl) (by rfl) (setRow_heap _ _ _ _ _ _ HS.out.z) Tryd.underlying25 rfl (by kernel_rfl)
            · have HK := Kp.mk (show pOk 2147483647 s = false by rw [HOK.out, decide_eq_false hT])
              have hT2 : (Tx.toList == s.toList) = false := by
                rw [beq_eq_false_iff_ne]
                intro e
                exact hT (cf_tl.1 e)
              clear HOK hTx hT
              go_upto_region 15 with fail
              repeat ((fail_if_success (with_reducible show Oper.wp _ (Oper.mk _ (.store _ _ _) _ _ _ _) _ _ _ _)); go_step)
              refine wp_store_row _ _ _ (by rfl) _ cfZ (by rfl) (by rfl) _ _ HS.out.z (by kernel_rfl) rfl (by decide +kernel) ?_
              go_wp2_with fail
              refine bodyPost_ret (v := .tuple #[.agg cfZ, .int .i64 3]) ?_ rfl (PRet.no (below_setRow HS.out.bel (Nat.le_refl _) _) HK.out)
              exact res_cfg (p := 2) (q := 3) (ty := 25) (by kernel_rfl) _ _ w.heap.size _ _ _ _ _ (by rfl) (by rfl) (setRow_heap _ _ _ _ _ _ HS.out.z) Tryd.underlying25 rfl (by kernel_rfl)
        · have HPA := Kp.mk (show pA s = y by rw [HAU.out, if_neg hy])
          have hy2 : (y.toList == [45]) = false := by
            rw [show ([45] : List UInt8) = (⟨#[45]⟩ : ByteArray).toList from by rw [ByteArray.toList_eq]]
            rw [beq_eq_false_iff_ne]
            intro e
            exact hy (cf_tl.1 e)
          clear HAU hy
          go_upto_region 13 with fail
          clear e1
          go_cut [8] (fun s8 wx => ∃ b8 : Nat, s8 = .pointer (some ⟨b8, 0, none⟩) ∧ CpS w.heap.size bW gN (wdK s) #[.int .i64 c0, .int .i64 c1, .int .i64 c2, .int .i64 c3, .int .i64 c4, .int .i64 c5, .int .i64 c6, .int .i64 c7, .int .i64 c8, .int .i64 c9, .int .i64 c10, .int .i64 c11, .int .i64 c12, .int .i64 c13, .int .i64 c14, .int .i64 c15] w wx ∧ wx.heap[b8]? = some (.cells #[.string (x0), .string (y), .int .i64 c0, .int .i64 c1, .int .i64 c2, .int .i64 c3, .int .i64 c4, .int .i64 c5, .int .i64 c6, .int .i64 c7, .int .i64 c8, .int .i64 c9, .int .i64 c10, .int .i64 c11, .int .i64 c12, .int .i64 c13, .int .i64 c14, .int .i64 c15] 25 (0, 0)) ∧ (w.heap.size ≤ b8 ∧ w.heap.size < b8 ∧ bW < b8 ∧ gN < b8))
          case first =>
            replace HST := Kp.mk (HST.out.next (Below.refl _ wr).drew)
            refine wp_region_held_drew (S := fun w' => w'.cell? ⟨bW, 0, none⟩ = some (.string x0) ∧ w'.rangeAt gN 0 [.int .i64 c0, .int .i64 c1, .int .i64 c2, .int .i64 c3, .int .i64 c4, .int .i64 c5, .int .i64 c6, .int .i64 c7, .int .i64 c8, .int .i64 c9, .int .i64 c10, .int .i64 c11, .int .i64 c12, .int .i64 c13, .int .i64 c14, .int .i64 c15]) (by kernel_rfl) (⟨blk_cell (i := 0) HST.out.wd (by rw [HX0.out]), fun j v hv => by rw [Nat.zero_add]; exact blk_cell HST.out.n (by simpa using hv)⟩) (fun hHeld => ?_)
            generalize wr.drew = WR0 at *
            refine wpAnyH_take (i := 0) (oi := ⟨some 35, .move (.tmp 4), _, _, _, none⟩) (v := ?_) rfl (by kernel_rfl) (by kernel_rfl) (by kernel_rfl) (fun _ _ _ h => h) (Or.inl ⟨by rfl, ?_⟩) (by assumption) ?_
            rotate_left
            · intro w hSw
              try dsimp only at hSw
              go_simp
              try with_reducible rfl
            try simp only [Act.put, List.setIfInBounds_toArray, List.set_cons_zero, List.set_cons_succ]
            refine wpAnyH_take (i := 1) (oi := ⟨some 36, .indexAddr 31 (.tmp 35) (.const (.int .i64 0)), _, _, _, none⟩) (v := ?_) rfl (by kernel_rfl) (by kernel_rfl) (by kernel_rfl) (fun _ _ _ h => h) (Or.inl ⟨by rfl, ?_⟩) (by assumption) ?_
            rotate_left
            · intro w hSw
              try dsimp only at hSw
              go_simp
              try with_reducible rfl
            try simp only [Act.put, List.setIfInBounds_toArray, List.set_cons_zero, List.set_cons_succ]
            refine wpAnyH_take (i := 2) (oi := ⟨some 37, .load 9 (.tmp 36), _, _, _, none⟩) (v := ?_) rfl (by kernel_rfl) (by kernel_rfl) (by kernel_rfl) (fun _ _ _ h => h) (Or.inl ⟨by rfl, ?_⟩) (by assumption) ?_
            rotate_left
            · intro w hSw
              try dsimp only at hSw
              go_simp
              try with_reducible rfl
            try simp only [Act.put, List.setIfInBounds_toArray, List.set_cons_zero, List.set_cons_succ]
            refine wpAnyH_take (i := 3) (oi := ⟨some 38, .move (.tmp 7), _, _, _, none⟩) (v := ?_) rfl (by kernel_rfl) (by kernel_rfl) (by kernel_rfl) (fun _ _ _ h => h) (Or.inl ⟨by rfl, ?_⟩) (by assumption) ?_
            rotate_left
            · intro w hSw
              try dsimp only at hSw
              go_simp
              try with_reducible rfl
            try simp only [Act.put, List.setIfInBounds_toArray, List.set_cons_zero, List.set_cons_succ]
            refine wpAnyH_take (i := 4) (oi := ⟨some 39, .load 33 (.tmp 5), _, _, _, none⟩) (v := .agg #[.int .i64 c0, .int .i64 c1, .int .i64 c2, .int .i64 c3, .int .i64 c4, .int .i64 c5, .int .i64 c6, .int .i64 c7, .int .i64 c8, .int .i64 c9, .int .i64 c10, .int .i64 c11, .int .i64 c12, .int .i64 c13, .int .i64 c14, .int .i64 c15]) rfl (by kernel_rfl) (by kernel_rfl) (by kernel_rfl) (fun _ _ _ h => h) (yieldsIf_load_mid (by rfl) _ _ rfl gN 0 rfl [.int .i64 c0, .int .i64 c1, .int .i64 c2, .int .i64 c3, .int .i64 c4, .int .i64 c5, .int .i64 c6, .int .i64 c7, .int .i64 c8, .int .i64 c9, .int .i64 c10, .int .i64 c11, .int .i64 c12, .int .i64 c13, .int .i64 c14, .int .i64 c15] _ (fun w9 hw9 => hw9.2) Tryd.underlying33 rfl (by kernel_rfl)) (by assumption) ?_
            try simp only [Act.put, List.setIfInBounds_toArray, List.set_cons_zero, List.set_cons_succ]
            refine wpAnyH_ready (rs := [5, 6]) (by kernel_rfl) (by simp) ?_
            refine AllReadyH.cons (o := ⟨some 40, _, _, _, _, none⟩) rfl (fun K hK => ?_) ?_
            ·   go_simp
                (go_at_call 9; refine (cf_made x0 y c0 c1 c2 c3 c4 c5 c6 c7 c8 c9 c10 c11 c12 c13 c14 c15 _).mono ?_; rintro e wm ⟨rfl, hbm⟩)
                try go_wp2_with fail
                have HM := Kp.mk (HST.out.next hbm)
                clear hbm
                refine hK.out _ _ (⟨blk_cell (i := 0) HM.out.wd (by rw [HX0.out]), fun j v hv => by rw [Nat.zero_add]; exact blk_cell HM.out.n (by simpa using hv)⟩) (fun hHeld2 => ?_)
                clear hK K
                try simp only [Act.put, List.setIfInBounds_toArray, List.set_cons_zero, List.set_cons_succ]
                refine wpAnyH_ready (rs := [6]) (by kernel_rfl) (by simp) ?_
                refine AllReadyH.cons (o := ⟨some 8, _, _, _, _, none⟩) rfl (fun K hK => ?_) AllReadyH.nil
                go_simp
                have HA := Kp.mk (HM.out.next ((Below.refl _ wm).alloc (Nat.le_refl _) (.cells #[.string ⟨#[]⟩, .string ⟨#[]⟩, .int .i64 0, .int .i64 0, .int .i64 0, .int .i64 0, .int .i64 0, .int .i64 0, .int .i64 0, .int .i64 0, .int .i64 0, .int .i64 0, .int .i64 0, .int .i64 0, .int .i64 0, .int .i64 0, .int .i64 0, .int .i64 0] 25)))
                have HN := Kp.mk (heap_alloc_new wm (.cells #[.string ⟨#[]⟩, .string ⟨#[]⟩, .int .i64 0, .int .i64 0, .int .i64 0, .int .i64 0, .int .i64 0, .int .i64 0, .int .i64 0, .int .i64 0, .int .i64 0, .int .i64 0, .int .i64 0, .int .i64 0, .int .i64 0, .int .i64 0, .int .i64 0, .int .i64 0] 25))
                have HLE := Kp.mk (HM.out.le)
                refine hK.out _ _ (⟨blk_cell (i := 0) HA.out.wd (by rw [HX0.out]), fun j v hv => by rw [Nat.zero_add]; exact blk_cell HA.out.n (by simpa using hv)⟩) (fun hHeld2 => ?_)
                clear hK K
                try simp only [Act.put, List.setIfInBounds_toArray, List.set_cons_zero, List.set_cons_succ]
                generalize (wm.alloc (.cells #[.string ⟨#[]⟩, .string ⟨#[]⟩, .int .i64 0, .int .i64 0, .int .i64 0, .int .i64 0, .int .i64 0, .int .i64 0, .int .i64 0, .int .i64 0, .int .i64 0, .int .i64 0, .int .i64 0, .int .i64 0, .int .i64 0, .int .i64 0, .int .i64 0, .int .i64 0] 25)) = wa at *
                generalize wm.heap.size = b8 at *
                refine wpAnyH_ready (rs := [7]) (by kernel_rfl) (by simp) ?_
                refine AllReadyH.cons (o := ⟨none, _, _, _, _, none⟩) rfl (fun K hK => ?_) AllReadyH.nil
                refine wp_store_row _ _ _ (by rfl) _ #[.string (x0), .string (y), .int .i64 c0, .int .i64 c1, .int .i64 c2, .int .i64 c3, .int .i64 c4, .int .i64 c5, .int .i64 c6, .int .i64 c7, .int .i64 c8, .int .i64 c9, .int .i64 c10, .int .i64 c11, .int .i64 c12, .int .i64 c13, .int .i64 c14, .int .i64 c15] (by rfl) (by rfl) _ _ HN.out (by kernel_rfl) rfl (by simp [Value.oneCell']) ?_
                simp only [Act.put]
                have HS2 := Kp.mk (HA.out.setRow (b8 := b8) (cs := #[.string (x0), .string (y), .int .i64 c0, .int .i64 c1, .int .i64 c2, .int .i64 c3, .int .i64 c4, .int .i64 c5, .int .i64 c6, .int .i64 c7, .int .i64 c8, .int .i64 c9, .int .i64 c10, .int .i64 c11, .int .i64 c12, .int .i64 c13, .int .i64 c14, .int .i64 c15]) HLE.out)
                have HR := Kp.mk (setRow_heap _ _ _ (#[.string (x0), .string (y), .int .i64 c0, .int .i64 c1, .int .i64 c2, .int .i64 c3, .int .i64 c4, .int .i64 c5, .int .i64 c6, .int .i64 c7, .int .i64 c8, .int .i64 c9, .int .i64 c10, .int .i64 c11, .int .i64 c12, .int .i64 c13, .int .i64 c14, .int .i64 c15] : Array Value) _ _ HN.out)
                refine hK.out _ _ (⟨blk_cell (i := 0) HS2.out.wd (by rw [HX0.out]), fun j v hv => by rw [Nat.zero_add]; exact blk_cell HS2.out.n (by simpa using hv)⟩) (fun hHeld2 => ?_)
                clear hK K
                refine wpAnyH_done (by kernel_rfl) ?_ _
                try go_wp2_with fail
                try go_meet
                exact ⟨b8, rfl, HS2.out, HR.out, HLE.out⟩
            ·   refine AllReadyH.cons (o := ⟨some 8, _, _, _, _, none⟩) rfl (fun K hK => ?_) AllReadyH.nil
                go_simp
                have HA := Kp.mk (HST.out.next ((Below.refl _ _).alloc (Nat.le_refl _) (.cells #[.string ⟨#[]⟩, .string ⟨#[]⟩, .int .i64 0, .int .i64 0, .int .i64 0, .int .i64 0, .int .i64 0, .int .i64 0, .int .i64 0, .int .i64 0, .int .i64 0, .int .i64 0, .int .i64 0, .int .i64 0, .int .i64 0, .int .i64 0, .int .i64 0, .int .i64 0] 25)))
                have HN0 := Kp.mk (heap_alloc_new WR0 (.cells #[.string ⟨#[]⟩, .string ⟨#[]⟩, .int .i64 0, .int .i64 0, .int .i64 0, .int .i64 0, .int .i64 0, .int .i64 0, .int .i64 0, .int .i64 0, .int .i64 0, .int .i64 0, .int .i64 0, .int .i64 0, .int .i64 0, .int .i64 0, .int .i64 0, .int .i64 0] 25))
                have HLE := Kp.mk (HST.out.le)
                refine hK.out _ _ (⟨blk_cell (i := 0) HA.out.wd (by rw [HX0.out]), fun j v hv => by rw [Nat.zero_add]; exact blk_cell HA.out.n (by simpa using hv)⟩) (fun hHeld2 => ?_)
                clear hK K
                try simp only [Act.put, List.setIfInBounds_toArray, List.set_cons_zero, List.set_cons_succ]
                generalize (WR0.alloc (.cells #[.string ⟨#[]⟩, .string ⟨#[]⟩, .int .i64 0, .int .i64 0, .int .i64 0, .int .i64 0, .int .i64 0, .int .i64 0, .int .i64 0, .int .i64 0, .int .i64 0, .int .i64 0, .int .i64 0, .int .i64 0, .int .i64 0, .int .i64 0, .int .i64 0, .int .i64 0] 25)) = wb at *
                generalize WR0.heap.size = b8 at *
                refine wpAnyH_ready (rs := [5]) (by kernel_rfl) (by simp) ?_
                refine AllReadyH.cons (o := ⟨some 40, _, _, _, _, none⟩) rfl (fun K hK => ?_) AllReadyH.nil
                go_simp
                (go_at_call 9; refine (cf_made x0 y c0 c1 c2 c3 c4 c5 c6 c7 c8 c9 c10 c11 c12 c13 c14 c15 _).mono ?_; rintro e wa ⟨rfl, hbm⟩)
                try go_wp2_with fail
                have HN := Kp.mk ((hbm.block _ (blk_lt HN0.out)).trans HN0.out)
                replace HA := Kp.mk (HA.out.next hbm)
                clear hbm
                refine hK.out _ _ (⟨blk_cell (i := 0) HA.out.wd (by rw [HX0.out]), fun j v hv => by rw [Nat.zero_add]; exact blk_cell HA.out.n (by simpa using hv)⟩) (fun hHeld2 => ?_)
                clear hK K
                try simp only [Act.put, List.setIfInBounds_toArray, List.set_cons_zero, List.set_cons_succ]
                refine wpAnyH_ready (rs := [7]) (by kernel_rfl) (by simp) ?_
                refine AllReadyH.cons (o := ⟨none, _, _, _, _, none⟩) rfl (fun K hK => ?_) AllReadyH.nil
                refine wp_store_row _ _ _ (by rfl) _ #[.string (x0), .string (y), .int .i64 c0, .int .i64 c1, .int .i64 c2, .int .i64 c3, .int .i64 c4, .int .i64 c5, .int .i64 c6, .int .i64 c7, .int .i64 c8, .int .i64 c9, .int .i64 c10, .int .i64 c11, .int .i64 c12, .int .i64 c13, .int .i64 c14, .int .i64 c15] (by rfl) (by rfl) _ _ HN.out (by kernel_rfl) rfl (by simp [Value.oneCell']) ?_
                simp only [Act.put]
                have HS2 := Kp.mk (HA.out.setRow (b8 := b8) (cs := #[.string (x0), .string (y), .int .i64 c0, .int .i64 c1, .int .i64 c2, .int .i64 c3, .int .i64 c4, .int .i64 c5, .int .i64 c6, .int .i64 c7, .int .i64 c8, .int .i64 c9, .int .i64 c10, .int .i64 c11, .int .i64 c12, .int .i64 c13, .int .i64 c14, .int .i64 c15]) HLE.out)
                have HR := Kp.mk (setRow_heap _ _ _ (#[.string (x0), .string (y), .int .i64 c0, .int .i64 c1, .int .i64 c2, .int .i64 c3, .int .i64 c4, .int .i64 c5, .int .i64 c6, .int .i64 c7, .int .i64 c8, .int .i64 c9, .int .i64 c10, .int .i64 c11, .int .i64 c12, .int .i64 c13, .int .i64 c14, .int .i64 c15] : Array Value) _ _ HN.out)
                refine hK.out _ _ (⟨blk_cell (i := 0) HS2.out.wd (by rw [HX0.out]), fun j v hv => by rw [Nat.zero_add]; exact blk_cell HS2.out.n (by simpa using hv)⟩) (fun hHeld2 => ?_)
                clear hK K
                refine wpAnyH_done (by kernel_rfl) ?_ _
                try go_wp2_with fail
                try go_meet
                exact ⟨b8, rfl, HS2.out, HR.out, HLE.out⟩
          case rest =>
            obtain ⟨b8, rfl, hS, hR, hl⟩ := hcut
            have HS := Kp.mk hS
            have HR := Kp.mk hR
            have HL8 := Kp.mk hl
            clear hS hR hl HST
            go_upto_region 14 with fail
            repeat ((fail_if_success (with_reducible show Oper.wp _ (Oper.mk _ (.load _ _) _ _ _ _) _ _ _ _)); go_step)
            refine wp_load_row _ _ (by rfl) b8 (by rfl) _ _ _ _ HR.out Tryd.underlying25 rfl (by kernel_rfl) ?_
            simp only [Act.put]
            go_wp2_with fail
            refine (cf_print x0 y c0 c1 c2 c3 c4 c5 c6 c7 c8 c9 c10 c11 c12 c13 c14 c15 _ hz0 (by first | exact hz1 | decide)).mono ?_
            rintro e w6 ⟨rfl, hb6⟩
            rw [HPA.out] at HOK
            replace HS := Kp.mk (HS.out.next hb6)
            replace HR := Kp.mk ((hb6.block _ (blk_lt HR.out)).trans HR.out)
            clear hb6
            generalize hTx : cfT x0 y [c0, c1, c2, c3, c4, c5, c6, c7, c8, c9, c10, c11, c12, c13, c14, c15] = Tx at *
            by_cases hT : Tx = s
            · have HK := Kp.mk (show pOk 2147483647 s = true by rw [HOK.out, decide_eq_true hT])
              clear HOK
              rw [hT]
              go_upto_region 16 with fail
              repeat ((fail_if_success (with_reducible show Oper.wp _ (Oper.mk _ (.load _ _) _ _ _ _) _ _ _ _)); go_step)
              refine wp_load_row _ _ (by rfl) b8 (by rfl) _ _ _ _ HR.out Tryd.underlying25 rfl (by kernel_rfl) ?_
              simp only [Act.put]
              repeat ((fail_if_success (with_reducible show Oper.wp _ (Oper.mk _ (.store _ _ _) _ _ _ _) _ _ _ _)); go_step)
              refine wp_store_row _ _ _ (by rfl) _ #[.string (x0), .string (y), .int .i64 c0, .int .i64 c1, .int .i64 c2, .int .i64 c3, .int .i64 c4, .int .i64 c5, .int .i64 c6, .int .i64 c7, .int .i64 c8, .int .i64 c9, .int .i64 c10, .int .i64 c11, .int .i64 c12, .int .i64 c13, .int .i64 c14, .int .i64 c15] (by rfl) (by rfl) _ _ HS.out.z (by kernel_rfl) rfl (by simp [Value.oneCell']) ?_
              go_wp2_with fail
              refine bodyPost_ret (v := .tuple #[.agg #[.string (x0), .string (y), .int .i64 c0, .int .i64 c1, .int .i64 c2, .int .i64 c3, .int .i64 c4, .int .i64 c5, .int .i64 c6, .int .i64 c7, .int .i64 c8, .int .i64 c9, .int .i64 c10, .int .i64 c11, .int .i64 c12, .int .i64 c13, .int .i64 c14, .int .i64 c15], .int .i64 0]) ?_ rfl (PRet.yes (below_setRow HS.out.bel (Nat.le_refl _) _) HK.out HLL.out HX0E.out HPA.out)
              exact res_cfg (p := 2) (q := 3) (ty := 25) (by kernel_rfl) _ _ w.heap.size _ _ _ _ _ (by rfl) (by rfl) (setRow_heap _ _ _ _ _ _ HS.out.z) Tryd.underlying25 rfl (by kernel_rfl)
            · have HK := Kp.mk (show pOk 2147483647 s = false by rw [HOK.out, decide_eq_false hT])
              have hT2 : (Tx.toList == s.toList) = false := by
                rw [beq_eq_false_iff_ne]
                intro e
                exact hT (cf_tl.1 e)
              clear HOK hTx hT
              go_upto_region 15 with fail
              repeat ((fail_if_success (with_reducible show Oper.wp _ (Oper.mk _ (.store _ _ _) _ _ _ _) _ _ _ _)); go_step)
              refine wp_store_row _ _ _ (by rfl) _ cfZ (by rfl) (by rfl) _ _ HS.out.z (by kernel_rfl) rfl (by decide +kernel) ?_
              go_wp2_with fail
              refine bodyPost_ret (v := .tuple #[.agg cfZ, .int .i64 3]) ?_ rfl (PRet.no (below_setRow HS.out.bel (Nat.le_refl _) _) HK.out)
              exact res_cfg (p := 2) (q := 3) (ty := 25) (by kernel_rfl) _ _ w.heap.size _ _ _ _ _ (by rfl) (by rfl) (setRow_heap _ _ _ _ _ _ HS.out.z) Tryd.underlying25 rfl (by kernel_rfl)
  · have HK := Kp.mk (show pOk 2147483647 s = false by unfold pOk; rw [decide_eq_false h18]; rfl)
    have q : (((wdK s).length : Int) == 18) = false := by rw [beq_eq_false_iff_ne]; omega
    go_upto_region 3 with fail
    repeat ((fail_if_success (with_reducible show Oper.wp _ (Oper.mk _ (.store _ _ _) _ _ _ _) _ _ _ _)); go_step)
    refine wp_store_row _ _ _ (by rfl) _ cfZ (by rfl) (by rfl) _ _ HZ1.out (by kernel_rfl) rfl (by decide +kernel) ?_
    go_wp2_with fail
    refine bodyPost_ret (v := .tuple #[.agg cfZ, .int .i64 3]) ?_ rfl ⟨below_setRow HB1.out (Nat.le_refl _) cfZ, .inl ⟨HK.out, rfl⟩⟩
    exact res_cfg (p := 2) (q := 3) (ty := 25) (by kernel_rfl) _ _ w.heap.size _ _ _ _ _ (by rfl) (by rfl) (setRow_heap _ _ _ cfZ _ _ HZ1.out) Tryd.underlying25 rfl (by kernel_rfl)
end Go.Proofs.YtggnnaafkekihaaDoor
