/- Lines that begin chunks: Parse, both ways (layer 14). -/
import Derived.Test.YtjbadcfhhcmnoaaPrm
import Derived.Test.YtjbadcfhhcmnoaaTxt
import Derived.Test.YtjbadcfhhcmnoaaNum
namespace Go.Proofs.Ytjbadcfhhcmnoaa
open Go.RowKit
set_option linter.unusedVariables false
set_option linter.unusedSimpArgs false

def hexN (n : Nat) : Bool := decide (digV n < 16)
theorem hexN_iff (n : Nat) : hexN n = true ↔ (48 ≤ n ∧ n ≤ 57) ∨ (65 ≤ n ∧ n ≤ 70) ∨ (97 ≤ n ∧ n ≤ 102) := by
  unfold hexN digV
  rw [decide_eq_true_eq]
  split
  · omega
  · split
    · omega
    · split <;> omega
theorem hexN_high (n : Nat) (h : 128 ≤ n) : hexN n = false := by
  cases hh : hexN n
  · rfl
  · rw [hexN_iff] at hh; omega

set_option maxHeartbeats 800000 in
theorem hexfn_any (n : Int) (w : World) (h0 : 0 ≤ n) (h1 : n ≤ 1114111) :
    Calls Try.prog 76 #[.int .i32 n] w fun e w' => e = .returned (.bool (hexN n.toNat)) ∧ Below w.heap.size w w' := by
  have H := Hd.mk (hexN_iff n.toNat)
  generalize hexN n.toNat = hb at *
  go_enter Try.func76, Try.ntmps76
  go_wp2
  all_goals go_ret
  all_goals refine ⟨ret_bool (b_eq ?_), Below.refl _ _⟩
  all_goals rw [H.out]
  all_goals go_light
  all_goals (simp at *; try omega)
theorem callF_hexfn (args : Array Value) (w : World) : (callFunc 76 args).run Try.prog w = .ok (.enter 76 args) w := by kernel_rfl

set_option maxRecDepth 100000 in
set_option maxHeartbeats 4000000 in
theorem behind_any (s : ByteArray) (w : World) (hs : s.size ≤ 1000000) :
    Calls Try.prog 75 #[.string s, .func (.func 76) #[] #[]] w fun e w' => e = .returned (.int .i64 (preN hexN s)) ∧ Below w.heap.size w w' := by
  go_enter Try.func75, Try.ntmps75
  go_wp2_with fail
  go_loopw [9] (fun _ wr => ∃ pos : Nat, wr.heap[w.heap.size]? = some (.stringIter s pos) ∧ Below w.heap.size w wr ∧ pos ≤ s.size ∧ ∀ j, j < pos → hexN (bt s j) = true) (fun _ wr => s.size - wr.iterPos w.heap.size)
  case atStart => exact ⟨0, World.iter_heap _ _ _, (Below.refl _ _).alloc (Nat.le_refl _) _, by omega, fun j h => by omega⟩
  case round =>
    obtain ⟨pos, hit, hbel, hps, hf⟩ := hrel
    have HF := Hd.mk hf
    have HB := Hd.mk hbel
    have HI := Hd.mk hit
    have hmeas : wr.iterPos w.heap.size = pos := by simp [World.iterPos, hit]
    have HM := Hd.mk hmeas
    have hlt0 : w.heap.size < wr.heap.size := (Array.getElem?_eq_some_iff.1 hit).1
    by_cases hlt : pos < s.size
    · have hnx : ∀ ty, (Instr.next (.pointer (some ⟨w.heap.size, 0, none⟩)) true ty).run Try.prog wr = _ := fun ty => Lib.run_next_any_at wr w.heap.size s pos ty hit hlt
      have hnew : ∀ p w', Below (wr.iterAt w.heap.size s p).heap.size (wr.iterAt w.heap.size s p) w' → w'.heap[w.heap.size]? = some (.stringIter s p) ∧ Below w.heap.size w w' := by
        intro p w' hb
        have hs1 := Lib.iterAt_size wr w.heap.size s p
        refine ⟨by rw [hb.block _ (by rw [hs1]; exact hlt0)]; exact Lib.iterAt_heap wr _ s pos p hit, ?_⟩
        exact (Lib.below_iterAt hbel (Nat.le_refl _) s p).trans (hb.mono (by rw [hs1]; omega))
      have HN := Hd.mk hnew
      clear hf hbel hit hmeas hnew
      have hfit : ∃ r wd, Utf8.decode s pos = (r, wd) ∧ r ≤ 1114111 ∧ hexN r = hexN (bt s pos) ∧ (hexN (bt s pos) = true → wd = 1) := by
        by_cases hlow : bt s pos < 128
        · exact ⟨_, _, dec_low s pos hlt hlow, by omega, rfl, fun _ => rfl⟩
        · obtain ⟨d1, d2, d3⟩ := dec_high s pos hlt (by omega)
          refine ⟨(Utf8.decode s pos).1, (Utf8.decode s pos).2, rfl, Lib.rune_le s pos, ?_, fun h => ?_⟩
          · rw [hexN_high _ d1, hexN_high _ (by omega)]
          · rw [hexN_high _ (by omega)] at h; cases h
      obtain ⟨r, wd, hdec, hr, hrr, hwd⟩ := hfit
      rw [hdec] at hnx
      have HRR := Hd.mk hrr
      have HWD := Hd.mk hwd
      clear hdec hrr hwd
      go_wp2_with fail
      refine (hexfn_any _ _ (by omega) (by omega)).mono ?_
      rintro e w' ⟨rfl, hb⟩
      rw [Int.toNat_natCast, HRR.out]
      obtain ⟨hi', hb'⟩ := HN.out _ _ hb
      have HI' := Hd.mk hi'
      have HB' := Hd.mk hb'
      clear hb hi' hb'
      cases hx : hexN (bt s pos)
      · have HX := Hd.mk hx
        clear hx
        go_wp2_with fail
        go_ret
        exact ⟨ret_int (by rw [preN_of hps HF.out (.inr ⟨hlt, HX.out⟩)]), HB'.out⟩
      · have HX := Hd.mk hx
        obtain rfl := HWD.out hx
        clear hx
        go_wp2_with fail
        go_roundw
        case rel => exact ⟨pos + 1, HI'.out, HB'.out, by omega, fun j hj => by
          by_cases hjk : j < pos
          · exact HF.out j hjk
          · obtain rfl : j = pos := by omega
            exact HX.out⟩
        case measure =>
          rw [HM.out]
          simp only [World.iterPos, HI'.out]
          omega
    · have hnx : ∀ ty, (Instr.next (.pointer (some ⟨w.heap.size, 0, none⟩)) true ty).run Try.prog wr = _ := fun ty => Lib.run_next_end_at wr w.heap.size s pos ty hit hlt
      have HE := Hd.mk (show preN hexN s = pos from preN_of hps hf (.inl (by omega)))
      have HE2 := Hd.mk (show pos = s.size by omega)
      clear hf hbel hit hmeas
      go_wp2_with fail
      go_ret
      exact ⟨ret_int (by rw [HE.out, HE2.out]), HB.out⟩

/-- P14.1: the error and the size of a chunk's line. -/
def chkOk (s : ByteArray) : Bool := decide (0 < preN hexN s) && (parsL ((fromB s (preN hexN s)).size + 1) (fromB s (preN hexN s))).isSome
def chkE (s : ByteArray) : Int := if s.size = 0 then 2 else if chkOk s then numE 16 (upB s (preN hexN s)) 2147483647 else 3
def chkV (s : ByteArray) : Int := if s.size = 0 then 0 else if chkOk s then numV 16 (upB s (preN hexN s)) 2147483647 else 0
theorem chk_emp {s : ByteArray} (h : s.size = 0) : chkE s = 2 ∧ chkV s = 0 := by unfold chkE chkV; rw [if_pos h, if_pos h]; exact ⟨rfl, rfl⟩
theorem chk_no {s : ByteArray} (h : s.size ≠ 0) (h2 : chkOk s = false) : chkE s = 3 ∧ chkV s = 0 := by unfold chkE chkV; rw [if_neg h, if_neg h, h2]; exact ⟨rfl, rfl⟩
theorem chk_yes {s : ByteArray} (h : s.size ≠ 0) (h2 : chkOk s = true) : chkE s = numE 16 (upB s (preN hexN s)) 2147483647 ∧ chkV s = numV 16 (upB s (preN hexN s)) 2147483647 := by unfold chkE chkV; rw [if_neg h, if_neg h, h2]; exact ⟨rfl, rfl⟩

def xB (r : ByteArray) : ByteArray := ⟨#[120]⟩ ++ r
theorem xB_list (r : ByteArray) : (xB r).data.toList = 120 :: r.data.toList := by unfold xB; rw [app_list]; rfl
theorem xB_size (r : ByteArray) : (xB r).size = r.size + 1 := by rw [ba_len (xB_list r), ba_size]; simp
theorem xB_pre (r : ByteArray) : preN tcharB (xB r) = preN tcharB r + 1 := by
  have h : tcharB 120 = true := by decide +kernel
  unfold preN preL
  rw [xB_list, List.takeWhile_cons]
  simp [h]
theorem xB_from (r : ByteArray) : fromB (xB r) 1 = r := ba_ext (by rw [fromB_list, xB_list]; rfl)
theorem parOk_tok {r : ByteArray} (h : 0 < preN tcharB r) : parOk r = false := by
  have hz : 0 < r.size := by have := preN_le tcharB r; omega
  have ht := preN_in h
  have hb : blankN (bt r 0) = false := by
    cases hh : blankN (bt r 0)
    · rfl
    · simp [blankN] at hh
      rcases hh with hh | hh <;> rw [hh] at ht <;> revert ht <;> decide +kernel
  have hs : semiAt r = 0 := by unfold semiAt; exact preN_of (by omega) (fun j hj => by omega) (.inr ⟨hz, hb⟩)
  have hn : hasSemi r = false := by
    unfold hasSemi
    rw [hs]
    cases hh : (bt r 0 == 59)
    · simp
    · have h59 : tcharB 59 = false := by decide +kernel
      rw [beq_iff_eq] at hh; rw [hh, h59] at ht; cases ht
  unfold parOk; rw [hn]; rfl
theorem xB_all (r : ByteArray) : (prmAll (xB r)).1 = 0 ∧ (prmAll (xB r)).2.1 = ⟨#[120]⟩ ↔ (parsL (r.size + 1) r).isSome = true := by
  have hz : (xB r).size ≠ 0 := by rw [xB_size]; omega
  have hp : preN tcharB (xB r) ≠ 0 := by rw [xB_pre]; omega
  by_cases h0 : preN tcharB r = 0
  · have e1 : preN tcharB (xB r) = 1 := by rw [xB_pre, h0]
    cases hq : parsL (r.size + 1) r with
    | none =>
      have := prmAll_no hz (.inr (by rw [e1, xB_from, parsL_more _ (r.size + 1) _ (by rw [xB_size]; omega) (by omega)]; exact hq))
      rw [this]; simp
    | some l =>
      have := prmAll_yes hz (by omega) (by rw [e1, xB_from, parsL_more _ (r.size + 1) _ (by rw [xB_size]; omega) (by omega)]; exact hq)
      rw [this, e1]
      have hu : upB (xB r) 1 = ⟨#[120]⟩ := ba_ext (by rw [upB_list, xB_list]; rfl)
      have hl : lowB ⟨#[120]⟩ = ⟨#[120]⟩ := by decide +kernel
      rw [hu, hl]; simp
  · have hr0 : r.size ≠ 0 := by have := preN_le tcharB r; omega
    have hno : parsL (r.size + 1) r = none := parsL_no hr0 (parOk_tok (by omega)) _
    rw [hno]
    constructor
    · intro ⟨h1, h2⟩
      exfalso
      cases hq : parsL ((xB r).size + 1) (fromB (xB r) (preN tcharB (xB r))) with
      | none => rw [prmAll_no hz (.inr hq)] at h1; cases h1
      | some l =>
        rw [prmAll_yes hz (by omega) hq] at h2
        have h3 := congrArg ByteArray.size h2
        simp only at h3
        rw [lowB_sz, upB_size, xB_pre, xB_size] at h3
        have h4 : (⟨#[120]⟩ : ByteArray).size = 1 := rfl
        have := preN_le tcharB r
        omega
    · intro h; cases h
end Go.Proofs.Ytjbadcfhhcmnoaa
