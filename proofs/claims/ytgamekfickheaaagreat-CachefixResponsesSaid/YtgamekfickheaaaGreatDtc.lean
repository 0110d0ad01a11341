/- Dates of fields (layer 6): whole patterns; Print, Parse, Fix, the program's. -/
import Derived.Test.YtgamekfickheaaaGreatDtb
namespace Go.Proofs.YtgamekfickheaaaGreat
open Go.RowKit
set_option linter.unusedVariables false
set_option linter.unusedSimpArgs false

theorem emp_neD {v : ByteArray} (h : v.size ≠ 0) : v.toList.isEmpty = false ∧ ¬ (v.toList = []) := by
  have h1 : v.toList ≠ [] := fun e => by
    rw [ByteArray.toList_eq] at e
    rw [ba_size', e] at h
    exact h rfl
  exact ⟨by cases hv : v.toList with | nil => exact absurd hv h1 | cons a b => rfl, h1⟩
theorem Onl.iterAt {b : Nat} {g : Option Nat} {u w : World} (h : Onl b g u w) {k : Nat} (hk : u.heap.size ≤ k) (s : ByteArray) (pos : Nat) : Onl b g u (w.iterAt k s pos) :=
  ⟨h.os, h.tape, h.output, by rw [Lib.iterAt_size]; exact h.size, fun j hj h1 h2 => (Lib.iterAt_other w k j s pos (by omega)).trans (h.block j hj h1 h2)⟩
theorem allS_step (P : ByteArray) (k : Nat) (hk : k < P.size) (g : Fd) : allS (P.data.toList.drop k) g = match oneS (bt P k) g with | none => none | some g' => allS (P.data.toList.drop (k + 1)) g' := by
  have hl : k < P.data.toList.length := by rw [← ba_size']; exact hk
  rw [List.drop_eq_getElem_cons hl]
  show (match oneS (P.data.toList[k]).toNat g with | none => none | some g' => allS _ g') = _
  rw [bt_list P k hk]
theorem alpha_low : ∀ c ∈ alphaL, c < 128 := by decide
set_option maxRecDepth 100000 in
set_option maxHeartbeats 4000000 in
theorem fall_any6 (b : Nat) (f : Fd) (P : ByteArray) (hP : ∀ j, j < P.size → bt P j ∈ alphaL) (hPs : P.size ≤ 1000) (w : World) (h : FdB b f w) :
    Calls Tryz.prog 72 #[.pointer (some ⟨b, 0, none⟩), .string P] w (RetO (allS P.data.toList f) b w) := by
  have H := Kp.mk h
  have HP := Kp.mk hP
  have hbw : b < w.heap.size := blk_lt h.hb
  clear h hP
  go_enter Tryz.func72, Tryz.ntmps72
  go_wp2_with fail
  go_loopw [] (fun wr => ∃ (k : Nat) (g : Fd), k ≤ P.size ∧ wr.heap[w.heap.size]? = some (.stringIter P k) ∧ FdB b g wr ∧ Onl b none w wr ∧ allS P.data.toList f = allS (P.data.toList.drop k) g) (fun wr => P.size - wr.iterPos w.heap.size)
  case atStart =>
    refine ⟨0, f, by omega, World.iter_heap w P 0, ⟨?_, H.out.sz⟩, ?_, rfl⟩
    · exact (Below.heap_alloc w (.stringIter P 0) b hbw).trans H.out.hb
    · exact (Onl.refl b none w).alloc (.stringIter P 0)
  case round =>
    obtain ⟨k, g, hk, hit, hf, ho, ha⟩ := hrel
    have HF := Kp.mk hf
    have HO := Kp.mk ho
    have HA := Kp.mk ha
    clear hf ho ha
    by_cases hp : k < P.size
    · have hal := HP.out k hp
      have hlow := alpha_low _ hal
      have hnx : ∀ ty, (Instr.next (.pointer (some ⟨w.heap.size, 0, none⟩)) true ty).run Tryz.prog wr = .ok (.tuple #[.bool true, .int .i64 k, .int .i32 (bt P k : Nat)]) (wr.iterAt w.heap.size P (k + 1)) := fun ty => by
        have := Lib.run_next_ascii_at (P := Tryz.prog) wr w.heap.size P k ty hit hp (by rw [bt_at]; exact hlow)
        rw [bt_at] at this
        exact this
      have HI := Kp.mk (Lib.iterAt_heap wr w.heap.size P k (k + 1) hit)
      have HF2 := Kp.mk (show FdB b g (wr.iterAt w.heap.size P (k + 1)) from ⟨(Lib.iterAt_other wr w.heap.size b P (k + 1) (by omega)).trans HF.out.hb, HF.out.sz⟩)
      have HO2 := Kp.mk (HO.out.iterAt (Nat.le_refl _) P (k + 1))
      have HS := Kp.mk (HA.out.trans (allS_step P k hp g))
      have HN := Kp.mk (fone_any b g (bt P k) hal _ HF2.out)
      have hit0 := hit
      generalize oneS (bt P k) g = O at *
      generalize bt P k = c at *
      clear hlow hal
      go_wp2_with fail
      refine HN.out.mono ?_
      rintro e w2 ⟨g', rfl, h1, h2, h3⟩
      have R1 := Kp.mk h1
      have R2 := Kp.mk (HO2.out.trans (Nxt.refl _ _) h2)
      have R3 := Kp.mk h3
      have hi2 := (h2.block w.heap.size (blk_lt HI.out) (by omega) (by simp)).trans HI.out
      have HI2 := Kp.mk hi2
      clear h1 h2 h3
      rcases O with _ | g9
      · go_wp2_with fail
        go_ret
        exact ⟨g', by rw [HS.out]; rfl, R1.out, R2.out, fun q hq => by rw [HS.out] at hq; cases hq⟩
      · obtain rfl := R3.out g9 rfl
        go_wp2_with fail
        go_roundw
        case rel => exact ⟨k + 1, g', by omega, HI2.out, R1.out, R2.out, HS.out⟩
        case measure =>
          simp only [World.iterPos, hi2, hit0]
          omega
    · have hnx : ∀ ty, (Instr.next (.pointer (some ⟨w.heap.size, 0, none⟩)) true ty).run Tryz.prog wr = _ := fun ty => Lib.run_next_end_at wr w.heap.size P k ty hit hp
      have HS := Kp.mk (show allS P.data.toList f = if g.l = [] then some g else none by
        rw [HA.out, List.drop_eq_nil_of_le (by rw [← ba_size']; omega)]; rfl)
      have c0 : wr.cell? ⟨b, 0, none⟩ = some (.string (ofL g.l)) := blk_cell (i := 0) HF.out.hb rfl
      by_cases hg : g.l = []
      · have HV := Kp.mk (HS.out.trans (if_pos hg))
        rw [hg] at c0
        have ee : (ofL []).toList.isEmpty = true := by rw [ByteArray.toList_eq]; rfl
        go_wp2_with fail
        go_ret
        exact ⟨g, by rw [HV.out]; rfl, HF.out, HO.out, fun q hq => by rw [HV.out] at hq; cases hq; rfl⟩
      · have HV := Kp.mk (HS.out.trans (if_neg hg))
        obtain ⟨e1, e2⟩ := emp_neD (v := ofL g.l) (by rw [ofL_size]; intro e; exact hg (List.length_eq_zero_iff.1 e))
        generalize ofL g.l = S9 at *
        go_wp2_with fail
        go_ret
        exact ⟨g, by rw [HV.out]; rfl, HF.out, HO.out, fun q hq => by rw [HV.out] at hq; cases hq⟩
set_option maxHeartbeats 1000000 in
theorem hweek_any (n : Int) (w : World) (h0 : -9223372036854775808 ≤ n) (h1 : n ≤ 9223372036854775807) :
    Calls Tryz.prog 47 #[.int .i64 n] w fun e w' => e = .returned (.int .i64 (weekI (n / 86400))) ∧ w = w' := by
  obtain ⟨q, r, hq, hr, hn, hr1, hr2, hr3⟩ := tdm n
  have hqb : -106751991167302 ≤ q ∧ q ≤ 106751991167302 := by omega
  by_cases hr0 : r < 0
  · have HQ := Kp.mk (show n / 86400 = q - 1 by omega)
    clear hr3 hn
    go_enter Tryz.func47, Tryz.ntmps47
    go_wp2_with fail
    refine (weekday_any _ _).mono ?_
    rintro e w1 ⟨rfl, rfl⟩
    go_wp2_with fail
    go_ret
    exact ⟨by rw [HQ.out]; rfl, rfl⟩
  · have HQ := Kp.mk (show n / 86400 = q by
      by_cases h : n < 0
      · have := hr3 h; omega
      · omega)
    clear hr3 hn
    go_enter Tryz.func47, Tryz.ntmps47
    go_wp2_with fail
    refine (weekday_any _ _).mono ?_
    rintro e w1 ⟨rfl, rfl⟩
    go_wp2_with fail
    go_ret
    exact ⟨by rw [HQ.out]; rfl, rfl⟩
/-- The latest year with two last digits. -/
def latI (two most : Int) : Int := most - (most - two) % 100
theorem tmod100 (n : Int) : ∃ r : Int, n.tmod 100 = r ∧ (r = n % 100 ∨ r + 100 = n % 100) ∧ (r + 100).tmod 100 = n % 100 := by
  have h1 : n.tmod 100 = n % 100 ∨ n.tmod 100 + 100 = n % 100 := by
    have a := Int.lt_tmod_of_pos n (show (0 : Int) < 100 by omega)
    have b := Int.tmod_lt_of_pos n (show (0 : Int) < 100 by omega)
    have c := Int.tmod_add_mul_tdiv n 100
    omega
  refine ⟨_, rfl, h1, ?_⟩
  have hp : 0 ≤ n.tmod 100 + 100 := by
    have a := Int.lt_tmod_of_pos n (show (0 : Int) < 100 by omega)
    omega
  rw [Int.tmod_eq_emod_of_nonneg hp]
  omega
set_option maxHeartbeats 1000000 in
theorem latest_any (two most : Int) (w : World) (h0 : -100000 ≤ two) (h1 : two ≤ 100000) (m0 : -100000 ≤ most) (m1 : most ≤ 100000) :
    Calls Tryz.prog 73 #[.int .i64 two, .int .i64 most] w fun e w' => e = .returned (.int .i64 (latI two most)) ∧ w = w' := by
  obtain ⟨r, hr, hr1, hr2⟩ := tmod100 (most - two)
  have HL := Kp.mk (show latI two most = most - (most - two) % 100 from rfl)
  have hb : -100 ≤ r ∧ r ≤ 100 := by omega
  generalize hq : (most - two) % 100 = q at *
  have hqb : 0 ≤ q ∧ q < 100 := by omega
  clear hr1 hq
  go_enter Tryz.func73, Tryz.ntmps73
  go_wp2_with fail
  go_ret
  exact ⟨by rw [HL.out]; rfl, rfl⟩
theorem cells_ofL (l : List UInt8) : Lib.strCells (ofL l) = Lib.byteCells l := by
  unfold Lib.strCells Lib.byteCells ofL
  simp
theorem IsBuilderF_below {T e : TypeId} {B b : Nat} {bs : List Value} {w w' : World} (h : Lib.IsBuilderF T e B b bs w) (hb : Below w.heap.size w w') : Lib.IsBuilderF T e B b bs w' := by
  have key : ∀ p, Lib.BuilderAtF T e B b p bs w → Lib.BuilderAtF T e B b p bs w' := by
    rintro p ⟨hB, v, hbk, hown, hne⟩
    refine ⟨hB, v, (hb.block _ (blk_lt hbk)).trans hbk, ⟨hown.1, ?_⟩, hne⟩
    rcases hown.2 with h1 | ⟨g, cap, cur, fz, h1, h2, h3, rest⟩
    · exact .inl h1
    · exact .inr ⟨g, cap, cur, fz, h1, h2, (hb.block _ (blk_lt h3)).trans h3, rest⟩
  exact h.elim (fun x => .inl (key _ x)) (fun x => .inr (key _ x))
theorem date_ranges (n : Int) (h : placeB (n / 86400) = true) : 1 ≤ dyY n ∧ dyY n ≤ 9999 ∧ 1 ≤ dyM n ∧ dyM n ≤ 12 ∧ 1 ≤ dyD n ∧ dyD n ≤ 31 := by
  have hp : -719162 ≤ n / 86400 ∧ n / 86400 ≤ 2932896 := by simpa [placeB] using h
  obtain ⟨⟨a, b, c, d, e, f⟩, -⟩ := dayOf_spec hp.1 hp.2
  have := longI_range (dayOf (n / 86400)).1 (dayOf (n / 86400)).2.1
  exact ⟨a, b, c, d, e, Int.le_trans f this.2⟩
theorem time_ranges (n : Int) : 0 ≤ dH n ∧ dH n ≤ 23 ∧ 0 ≤ dM n ∧ dM n ≤ 59 ∧ 0 ≤ dS n ∧ dS n ≤ 59 := by
  unfold dH dM dS
  split <;> omega
end Go.Proofs.YtgamekfickheaaaGreat
