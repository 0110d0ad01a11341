/- Layer 1: Lower, Fold and Trim of the program. -/
import Derived.Test.YtahehpgnemanmaaOcto
import Derived.Lib.ConvBytes
import Derived.Lib.SliceRun
namespace Go.Proofs.Ytahehpgnemanmaa
open Go.RowKit
set_option linter.unusedVariables false
set_option linter.unusedSimpArgs false

theorem bytesWorld_frozen (w : World) (e : TypeId) (s : ByteArray) (j : Nat) (hj : j < s.size) : (Lib.bytesWorld w e s).frozen? ⟨w.heap.size, j, none⟩ = false := by
  have h1 : s.size ≤ (Lib.bytesCells w e s).size := by simp [Lib.bytesCells]
  simp [World.frozen?, Lib.bytesWorld_at_new]
  omega
theorem bytesWorld_below (w : World) (e : TypeId) (s : ByteArray) : Below w.heap.size w (Lib.bytesWorld w e s) :=
  ⟨by simp [Lib.bytesWorld, World.freeze, World.alloc, World.drew, -World.alloc_eq, -World.drew_eq], by simp [Lib.bytesWorld, World.freeze, World.alloc, World.drew, -World.alloc_eq, -World.drew_eq], by simp [Lib.bytesWorld, World.freeze, World.alloc, World.drew, -World.alloc_eq, -World.drew_eq], by rw [Lib.bytesWorld_size]; omega, fun k hk => Lib.bytesWorld_at_old w e s k hk⟩

/-- The octets of s, the first p of them small, stand in block g. -/
structure LowRow (s : ByteArray) (p g : Nat) (wr : World) : Prop where
  cell : ∀ j, j < s.size → wr.cell? ⟨g, j, none⟩ = some (.int .u8 ((if j < p then lowN (bt s j) else bt s j : Nat) : Int))
  free : ∀ j, j < s.size → wr.frozen? ⟨g, j, none⟩ = false
  lt : g < wr.heap.size

theorem LowRow.made (s : ByteArray) (p : Nat) (w : World) (e : TypeId) (h : ∀ j, j < p → j < s.size → lowN (bt s j) = bt s j) : LowRow s p w.heap.size (Lib.bytesWorld w e s) := by
  refine ⟨fun j hj => ?_, fun j hj => bytesWorld_frozen w e s j hj, by rw [Lib.bytesWorld_size]; omega⟩
  rw [Lib.bytesWorld_cell w e s j hj]
  have e1 : (s.data.toList.getD j 0).toNat = bt s j := by
    rw [← bt_list s j hj]
    simp [List.getD, hj]
  rw [e1]
  split
  · rw [h j ‹_› hj]
  · rfl
theorem LowRow.stored {s : ByteArray} {p g : Nat} {wr : World} (h : LowRow s p g wr) (hp : p < s.size) : LowRow s (p + 1) g (wr.setCell ⟨g, p, none⟩ (.int .u8 (lowN (bt s p) : Nat))) := by
  refine ⟨fun j hj => ?_, fun j hj => by rw [World.frozen?_setCell]; exact h.free j hj, by simp [World.setCell]; exact h.lt⟩
  by_cases hjp : j = p
  · subst hjp
    rw [World.cell?_setCell_same _ _ _ (h.cell j hj), if_pos (by omega)]
  · rw [World.cell?_setCell_other _ _ _ _ (by simp [Ne.symm hjp]), h.cell j hj]
    by_cases hlt : j < p
    · rw [if_pos hlt, if_pos (by omega)]
    · rw [if_neg hlt, if_neg (by omega)]
theorem LowRow.kept {s : ByteArray} {p g : Nat} {w w' : World} (h : LowRow s p g w) (hg : w'.heap[g]? = w.heap[g]?) (hs : g < w'.heap.size) : LowRow s p g w' :=
  ⟨fun j hj => by rw [← h.cell j hj]; exact World.cell?_of_block hg, fun j hj => by rw [← h.free j hj]; exact World.frozen?_of_block hg, hs⟩
theorem LowRow.widen {s : ByteArray} {p p' g : Nat} {w : World} (h : LowRow s p g w) (hp : p ≤ p') (hl : ∀ j, p ≤ j → j < p' → j < s.size → lowN (bt s j) = bt s j) : LowRow s p' g w := by
  refine ⟨fun j hj => ?_, h.free, h.lt⟩
  rw [h.cell j hj]
  by_cases h1 : j < p
  · rw [if_pos h1, if_pos (by omega)]
  · rw [if_neg h1]
    by_cases h2 : j < p'
    · rw [if_pos h2, hl j (by omega) h2 hj]
    · rw [if_neg h2]

theorem LowRow.full {s : ByteArray} {p g : Nat} {w : World} (h : LowRow s p g w) (hp : ¬ p < s.size) : LowRow s s.size g w := by
  refine ⟨fun j hj => ?_, h.free, h.lt⟩
  rw [h.cell j hj, if_pos (by omega), if_pos hj]

/-- What Lower keeps from round to round. -/
def LowKeeps (s : ByteArray) (B : Nat) (v : Value) (wr : World) (pos : Nat) : Prop :=
  (v = .slice none 0 0 ∧ ∀ j, j < pos → j < s.size → lowN (bt s j) = bt s j) ∨ ∃ g cap, v = .slice (some ⟨g, 0, none⟩) s.size cap ∧ B < g ∧ LowRow s pos g wr

theorem lowB_same (s : ByteArray) (h : ∀ j, j < s.size → lowN (bt s j) = bt s j) : lowB s = s := by
  refine (ba_eq s _ ?_).symm
  apply List.ext_getElem
  · simp [lowL]
  · intro j h1 h2
    have hj : j < s.size := by simpa using h1
    have e := h j hj
    rw [← bt_list s j hj] at e
    simp only [lowL, List.getElem_map]
    apply UInt8.toNat_inj.1
    rw [lowC_toNat, e]

theorem lowB_row {P : Program} {s : ByteArray} {g cap : Nat} {wr : World} {src dst e : TypeId} (h : LowRow s s.size g wr) (hs : P.underlying src = some (.slice e)) (he : P.underlying e = some (.int .u8)) (hd : P.underlying dst = some .string) :
    (convert src dst (.slice (some ⟨g, 0, none⟩) s.size cap)).run P wr = .ok (.string (lowB s)) wr := by
  have hl : (lowL s.data.toList).length = s.size := by rw [lowL_length, ← ba_size]
  have := run_convert_bytes_back (P := P) wr src dst e ⟨g, 0, none⟩ cap (lowL s.data.toList) hs he hd fun j hj => by
    have hj' : j < s.size := by omega
    have hc := h.cell j hj'
    rw [if_pos hj'] at hc
    rw [show (⟨g, 0, none⟩ : Addr).add j = ⟨g, j, none⟩ from by rw [Addr.add_lit]; simp, hc]
    congr 3
    simp only [lowL, List.getElem_map]
    rw [lowC_toNat, bt_list s j hj']
  rw [hl] at this
  exact this

theorem lowN_mid {n : Nat} (h1 : 65 ≤ n) (h2 : n ≤ 90) : ((n : Int) + 97 - 65) = ((lowN n : Nat) : Int) := by
  unfold lowN; rw [if_pos ⟨h1, h2⟩]; omega
theorem lowN_out {n : Nat} (h : n < 65 ∨ 90 < n) : lowN n = n := by unfold lowN; rw [if_neg (by omega)]

set_option maxRecDepth 100000 in
set_option maxHeartbeats 800000 in
theorem oct_lower_any (s : ByteArray) (w : World) (hs : s.size ≤ 140737488351232) :
    Calls Try.prog 40 #[.string s] w fun e w' => e = .returned (.string (lowB s)) ∧ Below w.heap.size w w' := by
  have hnil := fun (wx : World) (a : Option Addr) (n c : Nat) => Lib.run_eql_slice_nil (P := Try.prog) wx 59 5 a n c 0 0 Try.underlying59
  go_enter Try.func40, Try.ntmps40
  go_wp2
  go_loopw [3, 4, 5] (fun v _ _ wr => ∃ pos : Nat, wr.heap[w.heap.size]? = some (.stringIter s pos) ∧ Below w.heap.size w wr ∧ LowKeeps s w.heap.size v wr pos) (fun _ _ _ wr => s.size - wr.iterPos w.heap.size)
  case atStart => exact ⟨0, World.iter_heap _ _ _, (Below.refl _ _).alloc (Nat.le_refl _) _, .inl ⟨rfl, fun j h => by omega⟩⟩
  case round =>
    obtain ⟨pos, hit, hbel, hkeep⟩ := hrel
    have HB := Lib.hid hbel
    have HI := Lib.hid hit
    have HK := Lib.hid hkeep
    have hmeas : wr.iterPos w.heap.size = pos := by simp [World.iterPos, hit]
    have HM := Lib.hid hmeas
    have hlt0 : w.heap.size < wr.heap.size := (Array.getElem?_eq_some_iff.1 hit).1
    by_cases hlt : pos < s.size
    · have hnx : ∀ ty, (Instr.next (.pointer (some ⟨w.heap.size, 0, none⟩)) true ty).run Try.prog wr = _ := fun ty => Lib.run_next_any_at wr w.heap.size s pos ty hit hlt
      clear hmeas hbel hit hkeep
      by_cases hup : 65 ≤ bt s pos ∧ bt s pos ≤ 90
      · obtain ⟨hu1, hu2⟩ := hup
        have hdec := dec_low s pos hlt (by omega)
        rw [hdec] at hnx
        clear hdec
        have hiz := Lib.iterAt_size wr w.heap.size s (pos + 1)
        have hih := Lib.iterAt_heap wr w.heap.size s pos (pos + 1) HI.out
        have hio : ∀ j, j ≠ w.heap.size → (wr.iterAt w.heap.size s (pos + 1)).heap[j]? = wr.heap[j]? := fun j h => Lib.iterAt_other wr _ j s _ h
        have hib := Lib.below_iterAt HB.out (Nat.le_refl _) s (pos + 1)
        generalize hW : wr.iterAt w.heap.size s (pos + 1) = W at *
        have HZ := Lib.hid hiz
        have HH := Lib.hid hih
        have HO := Lib.hid hio
        have HIB := Lib.hid hib
        have HWe := Lib.hid hW
        clear hiz hih hio hib hW
        have hmid := lowN_mid hu1 hu2
        have HMID := Lib.hid hmid
        clear hmid
        rcases HK.out with ⟨rfl, hno⟩ | ⟨g, cap, rfl, hg, hrow⟩
        · have hrow2 : LowRow s pos W.heap.size (Lib.bytesWorld W 5 s) := LowRow.made s pos W _ hno
          have hcell := hrow2.cell pos hlt
          have hfree := hrow2.free pos hlt
          have hcv := Lib.run_convert_string_bytes (P := Try.prog) W 9 59 5 s Try.underlying9 Try.underlying59 Try.underlying5
          rw [if_neg (Nat.lt_irrefl pos)] at hcell
          clear hno
          go_wp2
          rw [HMID.out]
          go_roundw
          case rel =>
            refine ⟨pos + 1, ?_, ?_, .inr ⟨W.heap.size, _, rfl, ?_, hrow2.stored hlt⟩⟩
            · rw [Below.heap_setCell _ _ _ _ (by show w.heap.size ≠ W.heap.size; rw [HZ.out]; omega), Lib.bytesWorld_at_old _ _ _ _ (by rw [HZ.out]; exact hlt0)]
              exact HH.out
            · exact (HIB.out.trans ((bytesWorld_below W _ s).mono (by rw [HZ.out]; omega))).setCell (by show w.heap.size ≤ W.heap.size; rw [HZ.out]; omega) _
            · rw [HZ.out]; exact hlt0
          case measure =>
            rw [HM.out]
            have hx : (((Lib.bytesWorld W 5 s).setCell ⟨W.heap.size, pos, none⟩ (.int .u8 (lowN (bt s pos) : Nat))).heap[w.heap.size]?) = some (.stringIter s (pos + 1)) := by
              rw [Below.heap_setCell _ _ _ _ (by show w.heap.size ≠ W.heap.size; rw [HZ.out]; omega), Lib.bytesWorld_at_old _ _ _ _ (by rw [HZ.out]; exact hlt0)]
              exact HH.out
            simp only [World.iterPos, hx]
            omega
        · have hcell := hrow.cell pos hlt
          have hfree := hrow.free pos hlt
          rw [if_neg (Nat.lt_irrefl pos)] at hcell
          have hcellW : W.cell? ⟨g, pos, none⟩ = some (.int .u8 (bt s pos : Nat)) := by rw [← hcell]; exact World.cell?_of_block (HO.out g (by omega))
          have hfreeW : W.frozen? ⟨g, pos, none⟩ = false := by rw [← hfree]; exact World.frozen?_of_block (HO.out g (by omega))
          have hrowW : LowRow s pos g W := hrow.kept (HO.out g (by omega)) (by rw [HZ.out]; exact hrow.lt)
          clear hcell hfree
          go_wp2
          rw [HMID.out]
          have hx : ((W.setCell ⟨g, pos, none⟩ (.int .u8 (lowN (bt s pos) : Nat))).heap[w.heap.size]?) = some (.stringIter s (pos + 1)) := by
            rw [Below.heap_setCell _ _ _ _ (by show w.heap.size ≠ g; omega)]
            exact HH.out
          go_roundw
          case rel =>
            exact ⟨pos + 1, hx, HIB.out.setCell (by show w.heap.size ≤ g; omega) _, .inr ⟨g, cap, rfl, hg, hrowW.stored hlt⟩⟩
          case measure =>
            rw [HM.out]
            simp only [World.iterPos, hx]
            omega
      · have hnot : (Utf8.decode s pos).1 < 65 ∨ 90 < (Utf8.decode s pos).1 := by
          by_cases hlow : bt s pos < 128
          · rw [dec_low s pos hlt hlow]; simp only; omega
          · have := (dec_high s pos hlt (by omega)).1; omega
        have hpos : 1 ≤ (Utf8.decode s pos).2 ∧ ∀ j, pos ≤ j → j < pos + (Utf8.decode s pos).2 → j < s.size → lowN (bt s j) = bt s j := by
          by_cases hlow : bt s pos < 128
          · rw [dec_low s pos hlt hlow]
            refine ⟨Nat.le_refl _, fun j h1 h2 _ => ?_⟩
            obtain rfl : j = pos := by simp only at h2; omega
            exact lowN_out (by omega)
          · obtain ⟨_, h2, h3⟩ := dec_high s pos hlt (by omega)
            exact ⟨h2, fun j h4 h5 _ => lowN_out (by have := (h3 j h4 h5).2; omega)⟩
        obtain ⟨hp1, hp2⟩ := hpos
        have HP := Lib.hid hp2
        have hd2 := decode_le s pos
        clear hp2 hup
        generalize Utf8.decode s pos = d at *
        obtain ⟨r, wd⟩ := d
        dsimp only at *
        have hiz := Lib.iterAt_size wr w.heap.size s (pos + wd)
        have hih := Lib.iterAt_heap wr w.heap.size s pos (pos + wd) HI.out
        have hio : ∀ j, j ≠ w.heap.size → (wr.iterAt w.heap.size s (pos + wd)).heap[j]? = wr.heap[j]? := fun j h => Lib.iterAt_other wr _ j s _ h
        have hib := Lib.below_iterAt HB.out (Nat.le_refl _) s (pos + wd)
        generalize hW : wr.iterAt w.heap.size s (pos + wd) = W at *
        have HZ := Lib.hid hiz
        have HH := Lib.hid hih
        have HO := Lib.hid hio
        have HIB := Lib.hid hib
        have HWe := Lib.hid hW
        clear hiz hih hio hib hW
        have hkeep2 : LowKeeps s w.heap.size u3 W (pos + wd) := by
          rcases HK.out with ⟨rfl, hno⟩ | ⟨g, cap, rfl, hg, hrow⟩
          · exact .inl ⟨rfl, fun j h1 h2 => by
              by_cases h3 : j < pos
              · exact hno j h3 h2
              · exact HP.out j (by omega) h1 h2⟩
          · exact .inr ⟨g, cap, rfl, hg, (hrow.kept (HO.out g (by omega)) (by rw [HZ.out]; exact hrow.lt)).widen (by omega) fun j h1 h2 h3 => HP.out j h1 h2 h3⟩
        have HK2 := Lib.hid hkeep2
        clear hkeep2
        rcases hnot with hnot | hnot
        all_goals
          go_wp2
          go_roundw
          case rel => exact ⟨pos + wd, HH.out, HIB.out, HK2.out⟩
          case measure =>
            rw [HM.out]
            simp only [World.iterPos, HH.out]
            omega
    · have hnx : ∀ ty, (Instr.next (.pointer (some ⟨w.heap.size, 0, none⟩)) true ty).run Try.prog wr = _ := fun ty => Lib.run_next_end_at wr w.heap.size s pos ty hit hlt
      clear hmeas hbel hit hkeep
      rcases HK.out with ⟨rfl, hno⟩ | ⟨g, cap, rfl, hg, hrow⟩
      · have hsame := lowB_same s fun j hj => hno j (by omega) hj
        have HS := Lib.hid hsame
        clear hno hsame
        go_wp2
        go_ret
        exact ⟨ret_str HS.out.symm, HB.out⟩
      · have hcv := lowB_row (P := Try.prog) (cap := cap) (src := 59) (dst := 9) (LowRow.full hrow hlt) Try.underlying59 Try.underlying5 Try.underlying9
        go_wp2
        go_ret
        exact ⟨rfl, HB.out⟩
end Go.Proofs.Ytahehpgnemanmaa
