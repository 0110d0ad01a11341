/- First lines (layer 15): the reason of a status, the document's. -/
import Derived.Test.YtlpcjnjhpgddmaaStb
namespace Go.Proofs.Ytlpcjnjhpgddmaa
open Go.RowKit
set_option linter.unusedVariables false
set_option linter.unusedSimpArgs false

def rsnI : Array Value := #[.int .i64 100, .int .i64 400, .int .i64 408, .int .i64 413, .int .i64 417, .int .i64 431, .int .i64 501, .int .i64 502, .int .i64 504, .int .i64 505, .int .i64 508]
def rsnT : Array Value := #[.string ⟨#[67, 111, 110, 116, 105, 110, 117, 101]⟩, .string ⟨#[66, 97, 100, 32, 82, 101, 113, 117, 101, 115, 116]⟩, .string ⟨#[82, 101, 113, 117, 101, 115, 116, 32, 84, 105, 109, 101, 111, 117, 116]⟩, .string ⟨#[67, 111, 110, 116, 101, 110, 116, 32, 84, 111, 111, 32, 76, 97, 114, 103, 101]⟩, .string ⟨#[69, 120, 112, 101, 99, 116, 97, 116, 105, 111, 110, 32, 70, 97, 105, 108, 101, 100]⟩, .string ⟨#[82, 101, 113, 117, 101, 115, 116, 32, 72, 101, 97, 100, 101, 114, 32, 70, 105, 101, 108, 100, 115, 32, 84, 111, 111, 32, 76, 97, 114, 103, 101]⟩, .string ⟨#[78, 111, 116, 32, 73, 109, 112, 108, 101, 109, 101, 110, 116, 101, 100]⟩, .string ⟨#[66, 97, 100, 32, 71, 97, 116, 101, 119, 97, 121]⟩, .string ⟨#[71, 97, 116, 101, 119, 97, 121, 32, 84, 105, 109, 101, 111, 117, 116]⟩, .string ⟨#[72, 84, 84, 80, 32, 86, 101, 114, 115, 105, 111, 110, 32, 78, 111, 116, 32, 83, 117, 112, 112, 111, 114, 116, 101, 100]⟩, .string ⟨#[76, 111, 111, 112, 32, 68, 101, 116, 101, 99, 116, 101, 100]⟩]
def RsnRel (s : Int) (w : World) (i : Value) (wr : World) : Prop :=
  ∃ k : Nat, k ≤ 11 ∧ i = .int .i64 k ∧ wr.heap[w.heap.size]? = some (.cells rsnI 3 (0, 0)) ∧ wr.heap[w.heap.size + 1]? = some (.cells rsnT 9 (0, 0)) ∧ Below w.heap.size w wr ∧ ∀ j : Nat, j < k → rsnI[j]? ≠ some (.int .i64 s)
set_option maxRecDepth 100000 in
set_option maxHeartbeats 8000000 in
theorem rreason_any (s : Int) (w : World) : Calls Try.prog 66 #[.int .i64 s] w fun e w' => e = .returned (.string (rsnS s)) ∧ Below w.heap.size w w' := by
  go_enter Try.func66, Try.ntmps66
  go_wp2_with fail
  go_loopw [5] (fun i wr => RsnRel s w i wr) (fun i _ => 11 - (intOf i).toNat)
  case atStart =>
    refine ⟨0, by omega, rfl, blk_alloc (heap_alloc_new w _), ?_, ((Below.refl _ _).alloc (Nat.le_refl _) _).alloc (by simp) _, fun j h => by omega⟩
    have h9 := heap_alloc_new (w.alloc (.cells rsnI 3)) (.cells rsnT 9)
    simp only [World.size_alloc] at h9
    exact h9
  case round =>
    obtain ⟨k, hk, rfl, ha, hb, hbw, hn⟩ := hrel
    have HB := Kp.mk hbw
    have HA := Kp.mk ha
    have HT := Kp.mk hb
    have HN := Kp.mk hn
    clear ha hb hbw hn
    have hcs : k = 0 ∨ k = 1 ∨ k = 2 ∨ k = 3 ∨ k = 4 ∨ k = 5 ∨ k = 6 ∨ k = 7 ∨ k = 8 ∨ k = 9 ∨ k = 10 ∨ k = 11 := by omega
    rcases hcs with rfl | rfl | rfl | rfl | rfl | rfl | rfl | rfl | rfl | rfl | rfl | rfl
    · have c1 := blk_cell (i := 0) HA.out (v := .int .i64 100) rfl
      have c2 := blk_cell (i := 0) HT.out (v := .string ⟨#[67, 111, 110, 116, 105, 110, 117, 101]⟩) rfl
      by_cases hs : s = 100
      · subst hs
        have HV := Kp.mk (show rsnS 100 = ⟨#[67, 111, 110, 116, 105, 110, 117, 101]⟩ from rfl)
        go_wp2_with fail
        go_ret
        exact ⟨by rw [HV.out]; rfl, HB.out⟩
      · have hs2 : ¬ (100 : Int) = s := fun e => hs e.symm
        have HS := Kp.mk hs2
        go_wp2_with fail
        go_roundw
        case rel => exact ⟨1, by omega, by go_num, HA.out, HT.out, HB.out, fun j hj => by
          by_cases hjk : j = 0
          · subst hjk
            intro e
            exact HS.out (by simpa [rsnI] using e)
          · exact HN.out j (by omega)⟩
        case measure => simp [intOf]
    · have c1 := blk_cell (i := 1) HA.out (v := .int .i64 400) rfl
      have c2 := blk_cell (i := 1) HT.out (v := .string ⟨#[66, 97, 100, 32, 82, 101, 113, 117, 101, 115, 116]⟩) rfl
      by_cases hs : s = 400
      · subst hs
        have HV := Kp.mk (show rsnS 400 = ⟨#[66, 97, 100, 32, 82, 101, 113, 117, 101, 115, 116]⟩ from rfl)
        go_wp2_with fail
        go_ret
        exact ⟨by rw [HV.out]; rfl, HB.out⟩
      · have hs2 : ¬ (400 : Int) = s := fun e => hs e.symm
        have HS := Kp.mk hs2
        go_wp2_with fail
        go_roundw
        case rel => exact ⟨2, by omega, by go_num, HA.out, HT.out, HB.out, fun j hj => by
          by_cases hjk : j = 1
          · subst hjk
            intro e
            exact HS.out (by simpa [rsnI] using e)
          · exact HN.out j (by omega)⟩
        case measure => simp [intOf]
    · have c1 := blk_cell (i := 2) HA.out (v := .int .i64 408) rfl
      have c2 := blk_cell (i := 2) HT.out (v := .string ⟨#[82, 101, 113, 117, 101, 115, 116, 32, 84, 105, 109, 101, 111, 117, 116]⟩) rfl
      by_cases hs : s = 408
      · subst hs
        have HV := Kp.mk (show rsnS 408 = ⟨#[82, 101, 113, 117, 101, 115, 116, 32, 84, 105, 109, 101, 111, 117, 116]⟩ from rfl)
        go_wp2_with fail
        go_ret
        exact ⟨by rw [HV.out]; rfl, HB.out⟩
      · have hs2 : ¬ (408 : Int) = s := fun e => hs e.symm
        have HS := Kp.mk hs2
        go_wp2_with fail
        go_roundw
        case rel => exact ⟨3, by omega, by go_num, HA.out, HT.out, HB.out, fun j hj => by
          by_cases hjk : j = 2
          · subst hjk
            intro e
            exact HS.out (by simpa [rsnI] using e)
          · exact HN.out j (by omega)⟩
        case measure => simp [intOf]
    · have c1 := blk_cell (i := 3) HA.out (v := .int .i64 413) rfl
      have c2 := blk_cell (i := 3) HT.out (v := .string ⟨#[67, 111, 110, 116, 101, 110, 116, 32, 84, 111, 111, 32, 76, 97, 114, 103, 101]⟩) rfl
      by_cases hs : s = 413
      · subst hs
        have HV := Kp.mk (show rsnS 413 = ⟨#[67, 111, 110, 116, 101, 110, 116, 32, 84, 111, 111, 32, 76, 97, 114, 103, 101]⟩ from rfl)
        go_wp2_with fail
        go_ret
        exact ⟨by rw [HV.out]; rfl, HB.out⟩
      · have hs2 : ¬ (413 : Int) = s := fun e => hs e.symm
        have HS := Kp.mk hs2
        go_wp2_with fail
        go_roundw
        case rel => exact ⟨4, by omega, by go_num, HA.out, HT.out, HB.out, fun j hj => by
          by_cases hjk : j = 3
          · subst hjk
            intro e
            exact HS.out (by simpa [rsnI] using e)
          · exact HN.out j (by omega)⟩
        case measure => simp [intOf]
    · have c1 := blk_cell (i := 4) HA.out (v := .int .i64 417) rfl
      have c2 := blk_cell (i := 4) HT.out (v := .string ⟨#[69, 120, 112, 101, 99, 116, 97, 116, 105, 111, 110, 32, 70, 97, 105, 108, 101, 100]⟩) rfl
      by_cases hs : s = 417
      · subst hs
        have HV := Kp.mk (show rsnS 417 = ⟨#[69, 120, 112, 101, 99, 116, 97, 116, 105, 111, 110, 32, 70, 97, 105, 108, 101, 100]⟩ from rfl)
        go_wp2_with fail
        go_ret
        exact ⟨by rw [HV.out]; rfl, HB.out⟩
      · have hs2 : ¬ (417 : Int) = s := fun e => hs e.symm
        have HS := Kp.mk hs2
        go_wp2_with fail
        go_roundw
        case rel => exact ⟨5, by omega, by go_num, HA.out, HT.out, HB.out, fun j hj => by
          by_cases hjk : j = 4
          · subst hjk
            intro e
            exact HS.out (by simpa [rsnI] using e)
          · exact HN.out j (by omega)⟩
        case measure => simp [intOf]
    · have c1 := blk_cell (i := 5) HA.out (v := .int .i64 431) rfl
      have c2 := blk_cell (i := 5) HT.out (v := .string ⟨#[82, 101, 113, 117, 101, 115, 116, 32, 72, 101, 97, 100, 101, 114, 32, 70, 105, 101, 108, 100, 115, 32, 84, 111, 111, 32, 76, 97, 114, 103, 101]⟩) rfl
      by_cases hs : s = 431
      · subst hs
        have HV := Kp.mk (show rsnS 431 = ⟨#[82, 101, 113, 117, 101, 115, 116, 32, 72, 101, 97, 100, 101, 114, 32, 70, 105, 101, 108, 100, 115, 32, 84, 111, 111, 32, 76, 97, 114, 103, 101]⟩ from rfl)
        go_wp2_with fail
        go_ret
        exact ⟨by rw [HV.out]; rfl, HB.out⟩
      · have hs2 : ¬ (431 : Int) = s := fun e => hs e.symm
        have HS := Kp.mk hs2
        go_wp2_with fail
        go_roundw
        case rel => exact ⟨6, by omega, by go_num, HA.out, HT.out, HB.out, fun j hj => by
          by_cases hjk : j = 5
          · subst hjk
            intro e
            exact HS.out (by simpa [rsnI] using e)
          · exact HN.out j (by omega)⟩
        case measure => simp [intOf]
    · have c1 := blk_cell (i := 6) HA.out (v := .int .i64 501) rfl
      have c2 := blk_cell (i := 6) HT.out (v := .string ⟨#[78, 111, 116, 32, 73, 109, 112, 108, 101, 109, 101, 110, 116, 101, 100]⟩) rfl
      by_cases hs : s = 501
      · subst hs
        have HV := Kp.mk (show rsnS 501 = ⟨#[78, 111, 116, 32, 73, 109, 112, 108, 101, 109, 101, 110, 116, 101, 100]⟩ from rfl)
        go_wp2_with fail
        go_ret
        exact ⟨by rw [HV.out]; rfl, HB.out⟩
      · have hs2 : ¬ (501 : Int) = s := fun e => hs e.symm
        have HS := Kp.mk hs2
        go_wp2_with fail
        go_roundw
        case rel => exact ⟨7, by omega, by go_num, HA.out, HT.out, HB.out, fun j hj => by
          by_cases hjk : j = 6
          · subst hjk
            intro e
            exact HS.out (by simpa [rsnI] using e)
          · exact HN.out j (by omega)⟩
        case measure => simp [intOf]
    · have c1 := blk_cell (i := 7) HA.out (v := .int .i64 502) rfl
      have c2 := blk_cell (i := 7) HT.out (v := .string ⟨#[66, 97, 100, 32, 71, 97, 116, 101, 119, 97, 121]⟩) rfl
      by_cases hs : s = 502
      · subst hs
        have HV := Kp.mk (show rsnS 502 = ⟨#[66, 97, 100, 32, 71, 97, 116, 101, 119, 97, 121]⟩ from rfl)
        go_wp2_with fail
        go_ret
        exact ⟨by rw [HV.out]; rfl, HB.out⟩
      · have hs2 : ¬ (502 : Int) = s := fun e => hs e.symm
        have HS := Kp.mk hs2
        go_wp2_with fail
        go_roundw
        case rel => exact ⟨8, by omega, by go_num, HA.out, HT.out, HB.out, fun j hj => by
          by_cases hjk : j = 7
          · subst hjk
            intro e
            exact HS.out (by simpa [rsnI] using e)
          · exact HN.out j (by omega)⟩
        case measure => simp [intOf]
    · have c1 := blk_cell (i := 8) HA.out (v := .int .i64 504) rfl
      have c2 := blk_cell (i := 8) HT.out (v := .string ⟨#[71, 97, 116, 101, 119, 97, 121, 32, 84, 105, 109, 101, 111, 117, 116]⟩) rfl
      by_cases hs : s = 504
      · subst hs
        have HV := Kp.mk (show rsnS 504 = ⟨#[71, 97, 116, 101, 119, 97, 121, 32, 84, 105, 109, 101, 111, 117, 116]⟩ from rfl)
        go_wp2_with fail
        go_ret
        exact ⟨by rw [HV.out]; rfl, HB.out⟩
      · have hs2 : ¬ (504 : Int) = s := fun e => hs e.symm
        have HS := Kp.mk hs2
        go_wp2_with fail
        go_roundw
        case rel => exact ⟨9, by omega, by go_num, HA.out, HT.out, HB.out, fun j hj => by
          by_cases hjk : j = 8
          · subst hjk
            intro e
            exact HS.out (by simpa [rsnI] using e)
          · exact HN.out j (by omega)⟩
        case measure => simp [intOf]
    · have c1 := blk_cell (i := 9) HA.out (v := .int .i64 505) rfl
      have c2 := blk_cell (i := 9) HT.out (v := .string ⟨#[72, 84, 84, 80, 32, 86, 101, 114, 115, 105, 111, 110, 32, 78, 111, 116, 32, 83, 117, 112, 112, 111, 114, 116, 101, 100]⟩) rfl
      by_cases hs : s = 505
      · subst hs
        have HV := Kp.mk (show rsnS 505 = ⟨#[72, 84, 84, 80, 32, 86, 101, 114, 115, 105, 111, 110, 32, 78, 111, 116, 32, 83, 117, 112, 112, 111, 114, 116, 101, 100]⟩ from rfl)
        go_wp2_with fail
        go_ret
        exact ⟨by rw [HV.out]; rfl, HB.out⟩
      · have hs2 : ¬ (505 : Int) = s := fun e => hs e.symm
        have HS := Kp.mk hs2
        go_wp2_with fail
        go_roundw
        case rel => exact ⟨10, by omega, by go_num, HA.out, HT.out, HB.out, fun j hj => by
          by_cases hjk : j = 9
          · subst hjk
            intro e
            exact HS.out (by simpa [rsnI] using e)
          · exact HN.out j (by omega)⟩
        case measure => simp [intOf]
    · have c1 := blk_cell (i := 10) HA.out (v := .int .i64 508) rfl
      have c2 := blk_cell (i := 10) HT.out (v := .string ⟨#[76, 111, 111, 112, 32, 68, 101, 116, 101, 99, 116, 101, 100]⟩) rfl
      by_cases hs : s = 508
      · subst hs
        have HV := Kp.mk (show rsnS 508 = ⟨#[76, 111, 111, 112, 32, 68, 101, 116, 101, 99, 116, 101, 100]⟩ from rfl)
        go_wp2_with fail
        go_ret
        exact ⟨by rw [HV.out]; rfl, HB.out⟩
      · have hs2 : ¬ (508 : Int) = s := fun e => hs e.symm
        have HS := Kp.mk hs2
        go_wp2_with fail
        go_roundw
        case rel => exact ⟨11, by omega, by go_num, HA.out, HT.out, HB.out, fun j hj => by
          by_cases hjk : j = 10
          · subst hjk
            intro e
            exact HS.out (by simpa [rsnI] using e)
          · exact HN.out j (by omega)⟩
        case measure => simp [intOf]
    · have hv : rsnS s = ⟨#[]⟩ := by
        unfold rsnS
        rw [if_neg (fun e => HN.out 0 (by omega) (by rw [e]; rfl))]
        rw [if_neg (fun e => HN.out 1 (by omega) (by rw [e]; rfl))]
        rw [if_neg (fun e => HN.out 2 (by omega) (by rw [e]; rfl))]
        rw [if_neg (fun e => HN.out 3 (by omega) (by rw [e]; rfl))]
        rw [if_neg (fun e => HN.out 4 (by omega) (by rw [e]; rfl))]
        rw [if_neg (fun e => HN.out 5 (by omega) (by rw [e]; rfl))]
        rw [if_neg (fun e => HN.out 6 (by omega) (by rw [e]; rfl))]
        rw [if_neg (fun e => HN.out 7 (by omega) (by rw [e]; rfl))]
        rw [if_neg (fun e => HN.out 8 (by omega) (by rw [e]; rfl))]
        rw [if_neg (fun e => HN.out 9 (by omega) (by rw [e]; rfl))]
        rw [if_neg (fun e => HN.out 10 (by omega) (by rw [e]; rfl))]
      have HV := Kp.mk hv
      clear hv
      go_wp2_with fail
      go_ret
      exact ⟨by rw [HV.out]; rfl, HB.out⟩
end Go.Proofs.Ytlpcjnjhpgddmaa
