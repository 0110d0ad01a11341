/- Heads in one form (layer 50): a name's one form, the program's. -/
import Derived.Test.YtocnecbhpofdgaaHde
import Derived.Deep.Cut
namespace Go.Proofs.Ytocnecbhpofdgaa
open Go.RowKit
set_option linter.unusedVariables false
set_option linter.unusedSimpArgs false

/-- A letter behind a hyphen, or at the beginning, made big. -/
def capN (s : ByteArray) (j : Nat) : Nat := if (j = 0 ∨ bt s (j - 1) = 45) ∧ 97 ≤ bt s j ∧ bt s j ≤ 122 then bt s j - 32 else bt s j
theorem capN_lt (s : ByteArray) (j : Nat) : capN s j < 256 := by
  unfold capN
  have := bt_lt s j
  split <;> omega
def capB (s : ByteArray) : ByteArray := ⟨((List.range s.size).map fun j => (capN s j).toUInt8).toArray⟩
theorem capB_list (s : ByteArray) : (capB s).data.toList = (List.range s.size).map fun j => (capN s j).toUInt8 := rfl
theorem capB_size (s : ByteArray) : (capB s).size = s.size := by
  show (capB s).data.size = _
  rw [← Array.length_toList, capB_list]
  simp
/-- A row of octets. -/
structure CRow (n g : Nat) (f : Nat → Nat) (wr : World) : Prop where
  cell : ∀ j, j < n → wr.cell? ⟨g, j, none⟩ = some (.int .u8 (f j : Nat))
  free : ∀ j, j < n → wr.frozen? ⟨g, j, none⟩ = false
  lt : g < wr.heap.size
theorem CRow.made (s : ByteArray) (w : World) (e : TypeId) : CRow s.size w.heap.size (bt s) (Lib.bytesWorld w e s) := by
  refine ⟨fun j hj => ?_, fun j hj => bytesWorld_frozen w e s j hj, by rw [Lib.bytesWorld_size]; omega⟩
  rw [Lib.bytesWorld_cell w e s j hj]
  have e1 : (s.data.toList.getD j 0).toNat = bt s j := by
    rw [← bt_list s j hj]
    simp [List.getD, hj]
  rw [e1]
theorem CRow.stored {n g p : Nat} {f : Nat → Nat} {wr : World} (h : CRow n g f wr) (hp : p < n) (v : Nat) : CRow n g (fun j => if j = p then v else f j) (wr.setCell ⟨g, p, none⟩ (.int .u8 (v : Nat))) := by
  refine ⟨fun j hj => ?_, fun j hj => by rw [World.frozen?_setCell]; exact h.free j hj, by simp [World.setCell]; exact h.lt⟩
  by_cases hjp : j = p
  · subst hjp
    rw [World.cell?_setCell_same _ _ _ (h.cell j hj)]
    show _ = some (Value.int .u8 ((if j = j then v else f j : Nat)))
    rw [if_pos rfl]
  · rw [World.cell?_setCell_other _ _ _ _ (by simp [Ne.symm hjp]), h.cell j hj]
    show _ = some (Value.int .u8 ((if j = p then v else f j : Nat)))
    rw [if_neg hjp]
theorem CRow.kept {n g : Nat} {f : Nat → Nat} {w w' : World} (h : CRow n g f w) (hg : w'.heap[g]? = w.heap[g]?) (hs : g < w'.heap.size) : CRow n g f w' :=
  ⟨fun j hj => by rw [← h.cell j hj]; exact World.cell?_of_block hg, fun j hj => by rw [← h.free j hj]; exact World.frozen?_of_block hg, hs⟩
theorem CRow.cong {n g : Nat} {f f' : Nat → Nat} {w : World} (h : CRow n g f w) (e : ∀ j, j < n → f j = f' j) : CRow n g f' w := ⟨fun j hj => by rw [h.cell j hj, e j hj], h.free, h.lt⟩
theorem capB_row {P : Program} {s : ByteArray} {g cap : Nat} {wr : World} {src dst e : TypeId} (h : CRow s.size g (capN s) wr) (hs : P.underlying src = some (.slice e)) (he : P.underlying e = some (.int .u8)) (hd : P.underlying dst = some .string) :
    (convert src dst (.slice (some ⟨g, 0, none⟩) s.size cap)).run P wr = .ok (.string (capB s)) wr := by
  have hl : (capB s).data.toList.length = s.size := by rw [capB_list]; simp
  have := run_convert_bytes_back (P := P) wr src dst e ⟨g, 0, none⟩ cap (capB s).data.toList hs he hd fun j hj => by
    have hj' : j < s.size := by omega
    rw [Addr.add_lit, Nat.zero_add, h.cell j hj']
    have e9 : (capB s).data.toList[j].toNat = capN s j := by
      simp only [capB_list, List.getElem_map, List.getElem_range]
      exact Nat.mod_eq_of_lt (capN_lt s j)
    rw [e9]
  rw [hl] at this
  exact this
/-- How far names have been gone through. -/
def mixN (s : ByteArray) (p j : Nat) : Nat := if j < p then capN s j else bt s j
theorem mixN_same {s : ByteArray} {p p' : Nat} (hp : p ≤ p') (h : ∀ j, p ≤ j → j < p' → j < s.size → capN s j = bt s j) (j : Nat) (hj : j < s.size) : mixN s p j = mixN s p' j := by
  unfold mixN
  by_cases h1 : j < p
  · rw [if_pos h1, if_pos (by omega)]
  · rw [if_neg h1]
    by_cases h2 : j < p'
    · rw [if_pos h2, h j (by omega) h2 hj]
    · rw [if_neg h2]
theorem mixN_set {s : ByteArray} {p v : Nat} (h : v = capN s p) (j : Nat) : (if j = p then v else mixN s p j) = mixN s (p + 1) j := by
  unfold mixN
  by_cases e : j = p
  · subst e
    rw [if_pos rfl, if_pos (Nat.lt_succ_self _), h]
  · rw [if_neg e]
    by_cases h1 : j < p
    · rw [if_pos h1, if_pos (by omega)]
    · rw [if_neg h1, if_neg (by omega)]
theorem capN_out {s : ByteArray} {j : Nat} (h : bt s j < 97 ∨ 122 < bt s j) : capN s j = bt s j := by unfold capN; rw [if_neg (by omega)]
def sEt : ByteArray := ⟨#[101, 116, 97, 103]⟩
def sEtB : ByteArray := ⟨#[69, 84, 97, 103]⟩
def sTe : ByteArray := ⟨#[116, 101]⟩
def sTeB : ByteArray := ⟨#[84, 69]⟩
def sWw : ByteArray := ⟨#[119, 119, 119, 45, 97, 117, 116, 104, 101, 110, 116, 105, 99, 97, 116, 101]⟩
def sWwB : ByteArray := ⟨#[87, 87, 87, 45, 65, 117, 116, 104, 101, 110, 116, 105, 99, 97, 116, 101]⟩
def sDn : ByteArray := ⟨#[100, 110, 116]⟩
def sDnB : ByteArray := ⟨#[68, 78, 84]⟩
theorem sEt_tl : sEt.toList = [101, 116, 97, 103] := by rw [ByteArray.toList_eq]; rfl
theorem sTe_tl : sTe.toList = [116, 101] := by rw [ByteArray.toList_eq]; rfl
theorem sWw_tl : sWw.toList = [119, 119, 119, 45, 97, 117, 116, 104, 101, 110, 116, 105, 99, 97, 116, 101] := by rw [ByteArray.toList_eq]; rfl
theorem sDn_tl : sDn.toList = [100, 110, 116] := by rw [ByteArray.toList_eq]; rfl
/-- The one form of a name, by its small letters. -/
def nmL (low : ByteArray) : ByteArray := if low = sEt then sEtB else if low = sTe then sTeB else if low = sWw then sWwB else if low = sDn then sDnB else capB low
def nameB (s : ByteArray) : ByteArray := nmL (lowB s)
/-- Is the octet at pos the first of a word? -/
def fstN (s : ByteArray) (pos : Nat) : Bool := decide (pos = 0 ∨ bt s (pos - 1) = 45)
theorem fstN_zero (s : ByteArray) : fstN s 0 = true := decide_eq_true (Or.inl rfl)
set_option maxRecDepth 100000 in

set_option maxHeartbeats 800000 in
theorem cname_any (s : ByteArray) (w : World) (hs : s.size ≤ 1000000) :
    Calls Try.prog 42 #[.string s] w fun e w' => e = .returned (.string (nameB s)) ∧ Below w.heap.size w w' := by
  have HLO := Kp.mk (oct_lower_any s w (by omega))
  have hln : (lowB s).size = s.size := lowB_size s
  have HNM := Kp.mk (show nameB s = nmL (lowB s) from rfl)
  generalize nameB s = R at *
  generalize lowB s = t at *
  have hts : t.size ≤ 1000000 := by omega
  clear hln hs
  have HX := Kp.mk (show nmL t = if t = sEt then sEtB else if t = sTe then sTeB else if t = sWw then sWwB else if t = sDn then sDnB else capB t from rfl)
  by_cases h1 : t = sEt
  · have HR := Kp.mk (HNM.out.trans (HX.out.trans (if_pos h1)))
    subst h1
    clear HNM HX
    unfold sEt sEtB at *
    go_enter Try.func42, Try.ntmps42
    go_wp2_with fail
    refine HLO.out.mono ?_
    rintro e w1 ⟨rfl, hb1⟩
    go_wp2_with fail
    go_ret
    exact ⟨by rw [HR.out]; rfl, hb1⟩
  · by_cases h9 : t = sTe
    · have HR := Kp.mk (HNM.out.trans (HX.out.trans ((if_neg h1).trans (if_pos h9))))
      subst h9
      clear HNM HX
      unfold sTe sTeB at *
      go_enter Try.func42, Try.ntmps42
      go_wp2_with fail
      refine HLO.out.mono ?_
      rintro e w1 ⟨rfl, hb1⟩
      go_wp2_with fail
      go_ret
      exact ⟨by rw [HR.out]; rfl, hb1⟩
    · have h2 := h9
      clear h9
      by_cases h9 : t = sWw
      · have HR := Kp.mk (HNM.out.trans (HX.out.trans ((if_neg h1).trans ((if_neg h2).trans (if_pos h9)))))
        subst h9
        clear HNM HX
        unfold sWw sWwB at *
        go_enter Try.func42, Try.ntmps42
        go_wp2_with fail
        refine HLO.out.mono ?_
        rintro e w1 ⟨rfl, hb1⟩
        go_wp2_with fail
        go_ret
        exact ⟨by rw [HR.out]; rfl, hb1⟩
      · have h3 := h9
        clear h9
        by_cases h9 : t = sDn
        · have HR := Kp.mk (HNM.out.trans (HX.out.trans ((if_neg h1).trans ((if_neg h2).trans ((if_neg h3).trans (if_pos h9))))))
          subst h9
          clear HNM HX
          unfold sDn sDnB at *
          go_enter Try.func42, Try.ntmps42
          go_wp2_with fail
          refine HLO.out.mono ?_
          rintro e w1 ⟨rfl, hb1⟩
          go_wp2_with fail
          go_ret
          exact ⟨by rw [HR.out]; rfl, hb1⟩
        · have HR := Kp.mk (HNM.out.trans (HX.out.trans ((if_neg h1).trans ((if_neg h2).trans ((if_neg h3).trans (if_neg h9))))))
          have e1 : (t.toList == [101, 116, 97, 103]) = false := by rw [← sEt_tl]; exact ba_tlb h1
          have e2 : (t.toList == [116, 101]) = false := by rw [← sTe_tl]; exact ba_tlb h2
          have e3 : (t.toList == [119, 119, 119, 45, 97, 117, 116, 104, 101, 110, 116, 105, 99, 97, 116, 101]) = false := by rw [← sWw_tl]; exact ba_tlb h3
          have e4 : (t.toList == [100, 110, 116]) = false := by rw [← sDn_tl]; exact ba_tlb h9
          clear h1 h2 h3 h9 HNM HX
          have hcv := fun W => Lib.run_convert_string_bytes (P := Try.prog) W 9 91 5 t Try.underlying9 Try.underlying91 Try.underlying5
          go_enter Try.func42, Try.ntmps42
          go_wp2_with fail
          refine HLO.out.mono ?_
          rintro e w1 ⟨rfl, hb1⟩
          have HB1 := Kp.mk hb1
          clear hb1
          have hC0 : CRow t.size w1.heap.size (bt t) (Lib.bytesWorld w1 5 t) := CRow.made t w1 _
          have hB0 := HB1.out.trans ((bytesWorld_below w1 5 t).mono HB1.out.size)
          have hg0 : w1.heap.size < (Lib.bytesWorld w1 5 t).heap.size := hC0.lt
          have HCV := Kp.mk hcv
          have hcv1 := hcv w1
          clear hcv
          generalize grownCap w1 t.size 0 5 = cap at *
          generalize hW0 : Lib.bytesWorld w1 5 t = W0 at *
          have HC0 := Kp.mk hC0
          have HB0 := Kp.mk hB0
          clear hC0 hB0 hW0 HCV
          go_wp2_with fail
          go_loopw [5] (fun fv wr => ∃ pos : Nat, wr.heap[W0.heap.size]? = some (.stringIter t pos) ∧ fv = .bool (fstN t pos) ∧ CRow t.size w1.heap.size (mixN t pos) wr ∧ Below w.heap.size w wr) (fun _ wr => t.size - wr.iterPos W0.heap.size)
          case atStart => exact ⟨0, World.iter_heap _ _ _, by rw [fstN_zero], (HC0.out.kept (Below.heap_alloc W0 _ _ hg0) (by simp; omega)).cong (fun j _ => rfl), HB0.out.alloc HB0.out.size _⟩
          case round =>
            obtain ⟨pos, hit, rfl, hrow, hbel⟩ := hrel
            have HB := Kp.mk hbel
            have HI := Kp.mk hit
            have HRW := Kp.mk hrow
            have hmeas : wr.iterPos W0.heap.size = pos := by simp [World.iterPos, hit]
            have HM := Kp.mk hmeas
            have hlt0 : W0.heap.size < wr.heap.size := (Array.getElem?_eq_some_iff.1 hit).1
            have hw1 := HB1.out.size
            have hwW : w.heap.size ≤ W0.heap.size := by omega
            by_cases hlt : pos < t.size
            · have hnx : ∀ ty, (Instr.next (.pointer (some ⟨W0.heap.size, 0, none⟩)) true ty).run Try.prog wr = _ := fun ty => Lib.run_next_any_at wr W0.heap.size t pos ty hit hlt
              clear hmeas hbel hit hrow
              by_cases hlow : bt t pos < 128
              · have hdec := dec_low t pos hlt hlow
                rw [hdec] at hnx
                clear hdec
                have hih := Lib.iterAt_heap wr W0.heap.size t pos (pos + 1) HI.out
                have hiz := Lib.iterAt_size wr W0.heap.size t (pos + 1)
                have hrowW : CRow t.size w1.heap.size (mixN t pos) (wr.iterAt W0.heap.size t (pos + 1)) := HRW.out.kept (Lib.iterAt_other wr _ _ t _ (by omega)) (by rw [hiz]; exact HRW.out.lt)
                have hib := Lib.below_iterAt HB.out hwW t (pos + 1)
                generalize wr.iterAt W0.heap.size t (pos + 1) = W at *
                have HH := Kp.mk hih
                have HRX := Kp.mk hrowW
                have HIB := Kp.mk hib
                have hf2 : fstN t (pos + 1) = (bt t pos == 45) := by unfold fstN; by_cases e : bt t pos = 45 <;> simp [e]
                have HF2 := Kp.mk hf2
                have hcell := hrowW.cell pos hlt
                have hfree := hrowW.free pos hlt
                have hmx : mixN t pos pos = bt t pos := if_neg (Nat.lt_irrefl _)
                rw [hmx] at hcell
                clear hih hiz hib hf2 hmx hrowW
                have HCN := Kp.mk (show capN t pos = if (fstN t pos = true) ∧ 97 ≤ bt t pos ∧ bt t pos ≤ 122 then bt t pos - 32 else bt t pos by unfold capN fstN; simp)
                generalize hfb : fstN t pos = fb at *
                clear hfb
                by_cases hcap : fb = true ∧ 97 ≤ bt t pos ∧ bt t pos ≤ 122
                · have HC2 := Kp.mk (HCN.out.trans (if_pos hcap))
                  obtain ⟨rfl, hc1, hc2⟩ := hcap
                  have hne : bt t pos ≠ 45 := by omega
                  have e45 : fstN t (pos + 1) = false := by rw [HF2.out]; simp [hne]
                  have HRY := Kp.mk ((HRX.out.stored hlt (bt t pos - 32)).cong (f' := mixN t (pos + 1)) fun j hj => mixN_set HC2.out.symm j)
                  have hz : (W.setCell ⟨w1.heap.size, pos, none⟩ (.int .u8 ((bt t pos - 32 : Nat) : Int))).heap[W0.heap.size]? = some (.stringIter t (pos + 1)) := by
                    rw [Below.heap_setCell _ _ _ _ (show W0.heap.size ≠ w1.heap.size by omega)]
                    exact HH.out
                  have HZ := Kp.mk hz
                  have HBZ := Kp.mk (HIB.out.setCell (p := ⟨w1.heap.size, pos, none⟩) hw1 (.int .u8 ((bt t pos - 32 : Nat) : Int)))
                  have HV := Kp.mk (show ((bt t pos : Int) - 97 + 65) = ((bt t pos - 32 : Nat) : Int) by omega)
                  have HFF := Kp.mk e45
                  clear hz e45 hne
                  go_wp2_with fail
                  rw [HV.out]
                  go_roundw
                  case rel => exact ⟨pos + 1, HZ.out, (by rw [HFF.out]; first | rfl | (congr 1; rw [beq_eq_false_iff_ne]; omega)), HRY.out, HBZ.out⟩
                  case measure =>
                    rw [HM.out]
                    simp only [World.iterPos, HZ.out]
                    omega
                · have HC2 := Kp.mk (HCN.out.trans (if_neg hcap))
                  have HRY := Kp.mk (HRX.out.cong (f' := mixN t (pos + 1)) fun j hj => mixN_same (Nat.le_succ _) (fun j h1 h2 _ => by
                    obtain rfl : j = pos := by omega
                    exact HC2.out) j hj)
                  have hcs : fb = false ∨ (fb = true ∧ bt t pos < 97) ∨ (fb = true ∧ 122 < bt t pos) := by
                    cases fb
                    · exact Or.inl rfl
                    · by_cases h1 : bt t pos < 97
                      · exact Or.inr (Or.inl ⟨rfl, h1⟩)
                      · exact Or.inr (Or.inr ⟨rfl, by
                          by_cases h2 : 122 < bt t pos
                          · exact h2
                          · exact (hcap ⟨rfl, by omega, by omega⟩).elim⟩)
                  clear hcap
                  by_cases h45 : bt t pos = 45
                  · have e45 : fstN t (pos + 1) = true := by rw [HF2.out]; simp [h45]
                    clear e45
                    rcases hcs with rfl | ⟨rfl, h9⟩ | ⟨rfl, h9⟩
                    · go_wp2_with fail
                      go_roundw
                      case rel => exact ⟨pos + 1, HH.out, (by rw [HF2.out]; first | rfl | (congr 1; rw [Bool.eq_iff_iff]; simp; omega) | (congr 1; simp; omega)), HRY.out, HIB.out⟩
                      case measure =>
                        rw [HM.out]
                        simp only [World.iterPos, HH.out]
                        omega
                    · go_wp2_with fail
                      go_roundw
                      case rel => exact ⟨pos + 1, HH.out, (by rw [HF2.out]; first | rfl | (congr 1; rw [Bool.eq_iff_iff]; simp; omega) | (congr 1; simp; omega)), HRY.out, HIB.out⟩
                      case measure =>
                        rw [HM.out]
                        simp only [World.iterPos, HH.out]
                        omega
                    · omega
                  · have e45 : fstN t (pos + 1) = false := by rw [HF2.out]; simp [h45]
                    clear e45
                    rcases hcs with rfl | ⟨rfl, h9⟩ | ⟨rfl, h9⟩
                    all_goals
                      go_wp2_with fail
                      go_roundw
                      case rel => exact ⟨pos + 1, HH.out, (by rw [HF2.out]; first | rfl | (congr 1; rw [Bool.eq_iff_iff]; simp; omega) | (congr 1; simp; omega)), HRY.out, HIB.out⟩
                      case measure =>
                        rw [HM.out]
                        simp only [World.iterPos, HH.out]
                        omega
              · obtain ⟨d1, d2, d3⟩ := dec_high t pos hlt (by omega)
                have HD3 := Kp.mk d3
                have hd0 := (d3 pos (Nat.le_refl _) (by omega)).1
                have hdr := Lib.rune_le t pos
                clear d3
                generalize Utf8.decode t pos = d at *
                obtain ⟨r, wd⟩ := d
                dsimp only at *
                have hih := Lib.iterAt_heap wr W0.heap.size t pos (pos + wd) HI.out
                have hiz := Lib.iterAt_size wr W0.heap.size t (pos + wd)
                have hrowW : CRow t.size w1.heap.size (mixN t pos) (wr.iterAt W0.heap.size t (pos + wd)) := HRW.out.kept (Lib.iterAt_other wr _ _ t _ (by omega)) (by rw [hiz]; exact HRW.out.lt)
                have hib := Lib.below_iterAt HB.out hwW t (pos + wd)
                generalize wr.iterAt W0.heap.size t (pos + wd) = W at *
                have HH := Kp.mk hih
                have HIB := Kp.mk hib
                have HRY := Kp.mk (hrowW.cong (f' := mixN t (pos + wd)) fun j hj => mixN_same (by omega) (fun j h1 h2 _ => capN_out (by have := (HD3.out j h1 h2).2; omega)) j hj)
                have hlast := (HD3.out (pos + wd - 1) (by omega) (by omega)).2
                have HF2 := Kp.mk (show fstN t (pos + wd) = false by unfold fstN; rw [decide_eq_false_iff_not]; omega)
                have q45 : (r == 45) = false := by rw [beq_eq_false_iff_ne]; omega
                clear hih hiz hib hrowW hlast
                generalize fstN t pos = fb at *
                cases fb
                all_goals
                  go_wp2_with fail
                  go_roundw
                  case rel => exact ⟨pos + wd, HH.out, (by rw [HF2.out]; first | rfl | (congr 1; rw [Bool.eq_iff_iff]; simp; omega) | (congr 1; simp; omega)), HRY.out, HIB.out⟩
                  case measure =>
                    rw [HM.out]
                    simp only [World.iterPos, HH.out]
                    omega
            · have hnx : ∀ ty, (Instr.next (.pointer (some ⟨W0.heap.size, 0, none⟩)) true ty).run Try.prog wr = _ := fun ty => Lib.run_next_end_at wr W0.heap.size t pos ty hit hlt
              have hcb := capB_row (P := Try.prog) (cap := cap) (src := 91) (dst := 9) (hrow.cong (f' := capN t) fun j hj => if_pos (by omega)) Try.underlying91 Try.underlying5 Try.underlying9
              clear hmeas hbel hit hrow
              go_wp2_with fail
              go_ret
              exact ⟨by rw [HR.out]; rfl, HB.out⟩
end Go.Proofs.Ytocnecbhpofdgaa
