/- Dates of fields (layer 6): whole patterns; Print, Parse, Fix, the program's. -/
import Derived.Test.YtlpcjnjhpgddmaaDtb
namespace Go.Proofs.Ytlpcjnjhpgddmaa
open Go.RowKit
set_option linter.unusedVariables false
set_option linter.unusedSimpArgs false

theorem emp_neD {v : ByteArray} (h : v.size ≠ 0) : v.toList.isEmpty = false ∧ ¬ (v.toList = []) := by
  have h1 : v.toList ≠ [] := fun e => by
    rw [ByteArray.toList_eq] at e
    rw [ba_size', e] at h
    exact h rfl
  exact ⟨by cases hv : v.toList with | nil => exact absurd hv h1 | cons a b => rfl, h1⟩
theorem Onl.iterAt {b : Nat} {g : Option Nat} {u w : World} (h : Onl b g u w) {k : Nat} (hk : u.heap.size ≤ k) (s : ByteArray) (pos : Nat) : Onl b g u (w.iterAt k s pos) :=
  ⟨h.os, h.tape, h.output, by rw [Lib.iterAt_size]; exact h.size, fun j hj h1 h2 => (Lib.iterAt_other w k j s pos (by omega)).trans (h.block j hj h1 h2)⟩
theorem allS_step (P : ByteArray) (k : Nat) (hk : k < P.size) (g : Fd) : allS (P.data.toList.drop k) g = match oneS (bt P k) g with | none => none | some g' => allS (P.data.toList.drop (k + 1)) g' := by
  have hl : k < P.data.toList.length := by rw [← ba_size']; exact hk
  rw [List.drop_eq_getElem_cons hl]
  show (match oneS (P.data.toList[k]).toNat g with | none => none | some g' => allS _ g') = _
  rw [bt_list P k hk]
theorem alpha_low : ∀ c ∈ alphaL, c < 128 := by decide
set_option maxHeartbeats 1000000 in
theorem hweek_any (n : Int) (w : World) (h0 : -9223372036854775808 ≤ n) (h1 : n ≤ 9223372036854775807) :
    Calls Try.prog 84 #[.int .i64 n] w fun e w' => e = .returned (.int .i64 (weekI (n / 86400))) ∧ w = w' := by
  obtain ⟨q, r, hq, hr, hn, hr1, hr2, hr3⟩ := tdm n
  have hqb : -106751991167302 ≤ q ∧ q ≤ 106751991167302 := by omega
  by_cases hr0 : r < 0
  · have HQ := Kp.mk (show n / 86400 = q - 1 by omega)
    clear hr3 hn
    go_enter Try.func84, Try.ntmps84
    go_wp2_with fail
    refine (weekday_any _ _).mono ?_
    rintro e w1 ⟨rfl, rfl⟩
    go_wp2_with fail
    go_ret
    exact ⟨by rw [HQ.out]; rfl, rfl⟩
  · have HQ := Kp.mk (show n / 86400 = q by
      by_cases h : n < 0
      · have := hr3 h; omega
      · omega)
    clear hr3 hn
    go_enter Try.func84, Try.ntmps84
    go_wp2_with fail
    refine (weekday_any _ _).mono ?_
    rintro e w1 ⟨rfl, rfl⟩
    go_wp2_with fail
    go_ret
    exact ⟨by rw [HQ.out]; rfl, rfl⟩
/-- The latest year with two last digits. -/
def latI (two most : Int) : Int := most - (most - two) % 100
theorem tmod100 (n : Int) : ∃ r : Int, n.tmod 100 = r ∧ (r = n % 100 ∨ r + 100 = n % 100) ∧ (r + 100).tmod 100 = n % 100 := by
  have h1 : n.tmod 100 = n % 100 ∨ n.tmod 100 + 100 = n % 100 := by
    have a := Int.lt_tmod_of_pos n (show (0 : Int) < 100 by omega)
    have b := Int.tmod_lt_of_pos n (show (0 : Int) < 100 by omega)
    have c := Int.tmod_add_mul_tdiv n 100
    omega
  refine ⟨_, rfl, h1, ?_⟩
  have hp : 0 ≤ n.tmod 100 + 100 := by
    have a := Int.lt_tmod_of_pos n (show (0 : Int) < 100 by omega)
    omega
  rw [Int.tmod_eq_emod_of_nonneg hp]
  omega
theorem cells_ofL (l : List UInt8) : Lib.strCells (ofL l) = Lib.byteCells l := by
  unfold Lib.strCells Lib.byteCells ofL
  simp
theorem IsBuilderF_below {T e : TypeId} {B b : Nat} {bs : List Value} {w w' : World} (h : Lib.IsBuilderF T e B b bs w) (hb : Below w.heap.size w w') : Lib.IsBuilderF T e B b bs w' := by
  have key : ∀ p, Lib.BuilderAtF T e B b p bs w → Lib.BuilderAtF T e B b p bs w' := by
    rintro p ⟨hB, v, hbk, hown, hne⟩
    refine ⟨hB, v, (hb.block _ (blk_lt hbk)).trans hbk, ⟨hown.1, ?_⟩, hne⟩
    rcases hown.2 with h1 | ⟨g, cap, cur, fz, h1, h2, h3, rest⟩
    · exact .inl h1
    · exact .inr ⟨g, cap, cur, fz, h1, h2, (hb.block _ (blk_lt h3)).trans h3, rest⟩
  exact h.elim (fun x => .inl (key _ x)) (fun x => .inr (key _ x))
theorem date_ranges (n : Int) (h : placeB (n / 86400) = true) : 1 ≤ dyY n ∧ dyY n ≤ 9999 ∧ 1 ≤ dyM n ∧ dyM n ≤ 12 ∧ 1 ≤ dyD n ∧ dyD n ≤ 31 := by
  have hp : -719162 ≤ n / 86400 ∧ n / 86400 ≤ 2932896 := by simpa [placeB] using h
  obtain ⟨⟨a, b, c, d, e, f⟩, -⟩ := dayOf_spec hp.1 hp.2
  have := longI_range (dayOf (n / 86400)).1 (dayOf (n / 86400)).2.1
  exact ⟨a, b, c, d, e, Int.le_trans f this.2⟩
theorem time_ranges (n : Int) : 0 ≤ dH n ∧ dH n ≤ 23 ∧ 0 ≤ dM n ∧ dM n ≤ 59 ∧ 0 ≤ dS n ∧ dS n ≤ 59 := by
  unfold dH dM dS
  split <;> omega
end Go.Proofs.Ytlpcjnjhpgddmaa
