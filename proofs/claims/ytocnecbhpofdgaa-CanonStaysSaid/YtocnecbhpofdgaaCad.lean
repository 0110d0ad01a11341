/- Heads in one form (layer 50): which names are never put together; the reference's Name and Single. -/
import Derived.Test.YtocnecbhpofdgaaCaa
namespace Go.Proofs.Ytocnecbhpofdgaa
open Go.RowKit
set_option linter.unusedVariables false
set_option linter.unusedSimpArgs false

def nSet : ByteArray := ⟨#[83, 101, 116, 45, 67, 111, 111, 107, 105, 101]⟩
def nWww : ByteArray := ⟨#[87, 87, 87, 45, 65, 117, 116, 104, 101, 110, 116, 105, 99, 97, 116, 101]⟩
def nPrx : ByteArray := ⟨#[80, 114, 111, 120, 121, 45, 65, 117, 116, 104, 101, 110, 116, 105, 99, 97, 116, 101]⟩
def sgB (x : ByteArray) : Bool := foldB nSet x || foldB nWww x || foldB nPrx x
theorem sgl1_any (n x : ByteArray) (bx : Nat) (w : World) (hc : w.cell? ⟨bx, 0, none⟩ = some (.string x)) (hn : n.size ≤ 100000) (hx : x.size ≤ 1000000) :
    Calls Try.prog 57 #[.string n, .pointer (some ⟨bx, 0, none⟩)] w fun e w' => e = .returned (.bool (foldB n x)) ∧ Below w.heap.size w w' := by
  go_enter Try.func57, Try.ntmps57
  go_wp2_with fail
  refine (oct_fold_any _ _ _ (by omega) (by omega)).mono ?_
  rintro e w1 ⟨rfl, hb1⟩
  go_wp2_with fail
  go_ret
  exact ⟨rfl, hb1⟩
set_option maxRecDepth 100000 in
set_option maxHeartbeats 600000 in
theorem csingle_any (x : ByteArray) (w : World) (hx : x.size ≤ 1000000) :
    Calls Try.prog 32 #[.string x] w fun e w' => e = .returned (.bool (sgB x)) ∧ Below w.heap.size w w' := by
  have HB0 := Kp.mk ((Below.refl w.heap.size w).alloc (Nat.le_refl _) (.cells #[.string x] 9))
  have hbk := heap_alloc_new w (.cells #[.string x] 9)
  have HC := Kp.mk (show ∀ n w', n.size ≤ 100000 → Below (w.heap.size + 1) (w.alloc (.cells #[.string x] 9)) w' → Calls Try.prog 57 #[.string n, .pointer (some ⟨w.heap.size, 0, none⟩)] w' fun e w2 => e = .returned (.bool (foldB n x)) ∧ Below w'.heap.size w' w2 from
    fun n w' hn hb => sgl1_any n x w.heap.size w' (blk_cell (i := 0) ((hb.block _ (Nat.lt_succ_self _)).trans hbk) rfl) hn hx)
  have hs1 : (w.alloc (.cells #[.string x] 9)).heap.size = w.heap.size + 1 := World.size_alloc _ _
  have HR := Kp.mk (show sgB x = (foldB nSet x || foldB nWww x || foldB nPrx x) from rfl)
  have HF1 := Kp.mk (HC.out nSet _ (by decide) (by have := Below.refl (w.alloc (.cells #[.string x] 9)).heap.size (w.alloc (.cells #[.string x] 9)); rwa [hs1] at this))
  have HF2 := Kp.mk (fun w' => HC.out nWww w' (by decide))
  have HF3 := Kp.mk (fun w' => HC.out nPrx w' (by decide))
  generalize sgB x = R at *
  generalize foldB nSet x = r1 at *
  generalize foldB nWww x = r2 at *
  generalize foldB nPrx x = r3 at *
  clear HC hbk
  unfold nSet nWww nPrx at *
  have HS := Kp.mk hs1
  clear hs1
  go_enter Try.func32, Try.ntmps32
  cases r1
  · cases r2
    · go_wp2_with fail
      refine HF1.out.mono ?_
      rintro e w1 ⟨rfl, hb1⟩
      rw [HS.out] at hb1
      have HB1 := Kp.mk hb1
      clear hb1
      go_wp2_with fail
      refine (HF2.out _ HB1.out).mono ?_
      rintro e w2 ⟨rfl, hb2⟩
      have HB2 := Kp.mk (HB1.out.trans (hb2.mono (by have := HB1.out.size; rw [HS.out] at this; exact this)))
      clear hb2
      go_wp2_with fail
      refine (HF3.out _ HB2.out).mono ?_
      rintro e w3 ⟨rfl, hb3⟩
      have HB3 := Kp.mk (HB2.out.trans (hb3.mono (by have := HB2.out.size; rw [HS.out] at this; exact this)))
      go_wp2_with fail
      go_ret
      exact ⟨by rw [HR.out]; rfl, HB0.out.trans (HB3.out.mono (Nat.le_succ _))⟩
    · go_wp2_with fail
      refine HF1.out.mono ?_
      rintro e w1 ⟨rfl, hb1⟩
      rw [HS.out] at hb1
      have HB1 := Kp.mk hb1
      clear hb1
      go_wp2_with fail
      refine (HF2.out _ HB1.out).mono ?_
      rintro e w2 ⟨rfl, hb2⟩
      have HB2 := Kp.mk (HB1.out.trans (hb2.mono (by have := HB1.out.size; rw [HS.out] at this; exact this)))
      clear hb2
      go_wp2_with fail
      go_ret
      exact ⟨by rw [HR.out]; rfl, HB0.out.trans (HB2.out.mono (Nat.le_succ _))⟩
  · go_wp2_with fail
    refine HF1.out.mono ?_
    rintro e w1 ⟨rfl, hb1⟩
    rw [HS.out] at hb1
    have HB1 := Kp.mk hb1
    clear hb1
    go_wp2_with fail
    go_ret
    exact ⟨by rw [HR.out]; rfl, HB0.out.trans (HB1.out.mono (Nat.le_succ _))⟩
/-! The reference's. -/
def mSet : ByteArray := ⟨#[115, 101, 116, 45, 99, 111, 111, 107, 105, 101]⟩
def mPrx : ByteArray := ⟨#[112, 114, 111, 120, 121, 45, 97, 117, 116, 104, 101, 110, 116, 105, 99, 97, 116, 101]⟩
theorem mSet_tl : mSet.toList = [115, 101, 116, 45, 99, 111, 111, 107, 105, 101] := by rw [ByteArray.toList_eq]; rfl
theorem mPrx_tl : mPrx.toList = [112, 114, 111, 120, 121, 45, 97, 117, 116, 104, 101, 110, 116, 105, 99, 97, 116, 101] := by rw [ByteArray.toList_eq]; rfl
theorem low_set : lowB nSet = mSet := by decide +kernel
theorem low_www : lowB nWww = sWw := by decide +kernel
theorem low_prx : lowB nPrx = mPrx := by decide +kernel
theorem tl_comm (a b : ByteArray) : (a.toList == b.toList) = (b.toList == a.toList) := by
  rw [Bool.eq_iff_iff, beq_iff_eq, beq_iff_eq]
  exact ⟨Eq.symm, Eq.symm⟩
theorem sgB_low (x : ByteArray) : sgB x = ((lowB x).toList == [115, 101, 116, 45, 99, 111, 111, 107, 105, 101] || (lowB x).toList == [119, 119, 119, 45, 97, 117, 116, 104, 101, 110, 116, 105, 99, 97, 116, 101] || (lowB x).toList == [112, 114, 111, 120, 121, 45, 97, 117, 116, 104, 101, 110, 116, 105, 99, 97, 116, 101]) := by
  rw [← mSet_tl, ← sWw_tl, ← mPrx_tl]
  unfold sgB foldB
  rw [low_set, low_www, low_prx, tl_comm mSet, tl_comm sWw, tl_comm mPrx]
set_option maxRecDepth 100000 in
set_option maxHeartbeats 600000 in
theorem rsingle_any (x : ByteArray) (w : World) (hx : x.size ≤ 1000000) :
    Calls Try.prog 48 #[.string x] w fun e w' => e = .returned (.bool (sgB x)) ∧ Below w.heap.size w w' := by
  have HL := Kp.mk (ref_lower_any x w (by omega))
  have HR := Kp.mk (sgB_low x)
  generalize sgB x = R at *
  generalize lowB x = t at *
  cases h1 : (t.toList == [115, 101, 116, 45, 99, 111, 111, 107, 105, 101])
  · cases h2 : (t.toList == [119, 119, 119, 45, 97, 117, 116, 104, 101, 110, 116, 105, 99, 97, 116, 101])
    · cases h3 : (t.toList == [112, 114, 111, 120, 121, 45, 97, 117, 116, 104, 101, 110, 116, 105, 99, 97, 116, 101])
      all_goals
        rw [h1, h2, h3] at HR
        go_enter Try.func48, Try.ntmps48
        go_wp2_with fail
        refine HL.out.mono ?_
        rintro e w1 ⟨rfl, hb1⟩
        go_wp2_with fail
        go_ret
        exact ⟨by rw [HR.out]; rfl, hb1⟩
    · rw [h1, h2] at HR
      go_enter Try.func48, Try.ntmps48
      go_wp2_with fail
      refine HL.out.mono ?_
      rintro e w1 ⟨rfl, hb1⟩
      go_wp2_with fail
      go_ret
      exact ⟨by rw [HR.out]; rfl, hb1⟩
  · rw [h1] at HR
    go_enter Try.func48, Try.ntmps48
    go_wp2_with fail
    refine HL.out.mono ?_
    rintro e w1 ⟨rfl, hb1⟩
    go_wp2_with fail
    go_ret
    exact ⟨by rw [HR.out]; rfl, hb1⟩
theorem capB_take {s : ByteArray} {k : Nat} (h : k < s.size) : (capB s).data.toList.take (k + 1) = (capB s).data.toList.take k ++ [(capN s k).toUInt8] := by
  have hl : k < (capB s).data.toList.length := by rw [capB_list]; simpa using h
  rw [List.take_succ_eq_append_getElem hl]
  congr 2
  simp only [capB_list, List.getElem_map, List.getElem_range]
theorem capN_u8 (s : ByteArray) (k : Nat) : ((capN s k).toUInt8).toNat = capN s k := Nat.mod_eq_of_lt (capN_lt s k)
end Go.Proofs.Ytocnecbhpofdgaa
