/- Layer 42: few, the acts as arguments, lives. Made by bin/mkwih.py. -/
import Derived.Test.YtpgnekejemockaaWig
import Derived.Test.YtpgnekejemockaaWif
namespace Go.Proofs.Ytpgnekejemockaa
open Go.RowKit
set_option linter.unusedVariables false
set_option linter.unusedSimpArgs false

def WFew (ps : List QA) (w : World) (e : Ending) (w' : World) : Prop := ∃ ok : Bool, e = .returned (.bool ok) ∧ Below w.heap.size w w' ∧ (ok = true → ps.length ≤ 60 ∧ ∀ p ∈ ps, p.2.2.size ≤ 300)
set_option maxRecDepth 100000 in
set_option maxHeartbeats 1000000 in
theorem few42_any (v : Value) (ps : List QA) (w : World) (hv : RdL qactC 3 w v ps) (hz : ∀ p ∈ ps, p.2.2.size ≤ maxLen) :
    Calls Try.prog 27 #[v] w (WFew ps w) := by
  have HV := Kp.mk hv
  have HZ := Kp.mk hz
  obtain ⟨a, cap, rfl, hc1, hc2, -⟩ := hv
  have hll : ps.length ≤ 9223372036854775807 := by unfold maxLen at hc2; omega
  clear hz hc2
  by_cases h20 : 60 < ps.length
  · go_enter Try.func27, Try.ntmps27
    go_wp2_with fail
    go_ret
    exact ⟨false, rfl, Below.refl _ _, fun h => by cases h⟩
  · go_enter Try.func27, Try.ntmps27
    go_wp2_with fail
    go_loopw [10] (fun i wr => ∃ k : Nat, k ≤ ps.length ∧ i = .int .i64 k ∧ Below w.heap.size w wr ∧ ∀ (j : Nat) (h : j < ps.length), j < k → ps[j].2.2.size ≤ 300) (fun i _ => ps.length - (intOf i).toNat)
    case atStart => exact ⟨0, by omega, rfl, Below.refl _ _, fun j _ h => by omega⟩
    case round =>
      obtain ⟨k, hk, rfl, hb, hf⟩ := hrel
      have HB := Kp.mk hb
      have HF := Kp.mk hf
      have hsz := hb.size
      clear hb hf
      by_cases hlt : k < ps.length
      · obtain ⟨g, o, rfl, hgl, d0⟩ := qact_cells (HV.out.below HB.out) (by omega)
        obtain ⟨c1, c2, c3⟩ := d0 k hlt
        have m1 := HZ.out ps[k] (List.getElem_mem hlt)
        unfold maxLen at m1
        have q0 : (0 : Int) ≤ (k : Int) := by omega
        have q1 : (k : Int) < (ps.length : Int) := by omega
        clear d0
        by_cases h1 : 300 < ps[k].2.2.size
        · go_wp2_with fail
          go_ret
          exact ⟨false, rfl, by first | exact (HB.out.alloc hsz _) | exact (HB.out.alloc hsz _).setCell (by simp; omega) _, fun h => by cases h⟩
        · go_wp2_with fail
          go_roundw
          case rel => exact ⟨k + 1, by omega, by go_num, by first | exact (HB.out.alloc hsz _) | exact (HB.out.alloc hsz _).setCell (by simp; omega) _, fun j hj hjk => by
            by_cases hjj : j < k
            · exact HF.out j hj hjj
            · obtain rfl : j = k := by omega
              omega⟩
          case measure => simp [intOf]; omega
      · go_wp2_with fail
        go_ret
        refine ⟨true, rfl, HB.out, fun _ => ⟨by omega, fun p hp => ?_⟩⟩
        obtain ⟨j, hj, rfl⟩ := List.getElem_of_mem hp
        exact HF.out j hj (by omega)
theorem Try.fcellsWAct : Try.prog.cellsOf 76 = 3 := by kernel_rfl
theorem Try.fcellsWI : Try.prog.cellsOf 3 = 1 := by kernel_rfl
theorem Try.fcellsWS : Try.prog.cellsOf 9 = 1 := by kernel_rfl
theorem wacts_arg (v1 : Value) (w : World) (h1 : Arg Try.prog w 62 v1) : ∃ ps, RdL qactC 3 w v1 ps ∧ ∀ p ∈ ps, (Lit.int .i64 p.1).wf = true ∧ (Lit.int .i64 p.2.1).wf = true ∧ p.2.2.size ≤ maxLen :=
  h1.list (f := qactC) (Q := fun p => (Lit.int .i64 p.1).wf = true ∧ (Lit.int .i64 p.2.1).wf = true ∧ p.2.2.size ≤ maxLen) Try.underlying62 Try.fcellsWAct (by omega) fun E hE =>
    qact_of Try.underlying76 Try.underlying3 Try.underlying9 Try.fcellsWAct Try.fcellsWI Try.fcellsWS ⟨_, rfl, rfl, rfl⟩ ⟨_, rfl, rfl, rfl⟩ ⟨_, rfl, rfl, rfl⟩ hE
set_option maxRecDepth 100000 in
set_option maxHeartbeats 2000000 in
theorem lives42_any (w : World) :
    Calls Try.prog 28 #[] w fun e w' => e = .returned (.bool true) ∧ Below w.heap.size w w' := by
  go_enter Try.func28, Try.ntmps28
  go_wp2_with fail
  refine (wNew w).mono ?_
  rintro e w1 ⟨b, rfl, h1, hbs, hb1⟩
  have H1 := Kp.mk h1
  have HB1 := Kp.mk hb1
  have HLT := Kp.mk h1.lt
  have HBS := Kp.mk hbs
  clear h1 hb1 hbs
  go_wp2_with fail
  refine (lk_new 5 w1 (by omega)).mono ?_
  rintro e w2 ⟨kb, qb, qg, rfl, h2, hb2⟩
  have H2 := Kp.mk h2
  have HB2 := Kp.mk hb2
  have HA2 := Kp.mk (show ∀ k, k = b → k < w1.heap.size from fun k hk => by rw [hk]; exact HLT.out)
  clear h2 hb2
  go_wp2_with fail
  refine (wSend (fun k => k = b) b 0 false .empty .empty ⟨#[97, 98, 99]⟩ w2 (H1.out.below HB2.out) (by decide) (by decide)).mono ?_
  rintro e w3 ⟨rfl, h3⟩
  obtain ⟨A, g1, g2, g3, g4, g5⟩ := LK.wto H2.out HA2.out h3
  have G1 := Kp.mk (show WR A b 0 false ⟨#[97, 98, 99]⟩ .empty w3 from (show (if false = true then ByteArray.empty else ByteArray.empty ++ ⟨#[97, 98, 99]⟩) = ⟨#[97, 98, 99]⟩ by decide +kernel) ▸ g1)
  have G2 := Kp.mk (show ∀ k, (k < w1.heap.size ∨ A k) → k < w3.heap.size from fun k hk => hk.elim (fun h => by have := HB2.out.size; have := g5.size; omega) (g2 k))
  have G4 := Kp.mk g4
  have GK := Kp.mk (show Kpt (fun k => k < w.heap.size) w w3 from ((Kpt.of HB1.out).trans (Kpt.of HB2.out)).trans (g5.mono fun k hk => ⟨by have := HB1.out.size; omega, fun e => by have := HBS.out; omega⟩))
  have GA := Kp.mk (show ∀ k, A k → ¬ k < w.heap.size from fun k hk h => by
    rcases g3 k hk with h2 | h2
    · have := HBS.out; omega
    · have := HB1.out.size; have := HB2.out.size; omega)
  clear h3 g1 g2 g3 g4 g5
  go_wp2_with fail
  refine (wRead A (fun k => k < w1.heap.size ∨ A k) b 0 false ⟨#[97, 98, 99]⟩ .empty kb qb qg 5 [] [] false false 2 w3 G1.out G4.out (fun k hk => .inr hk) G2.out (by decide) (by decide) 2 (by decide) 2 (by decide +kernel)).mono ?_
  rintro e w4 ⟨rfl, h4⟩
  have H4 := Kp.mk (show LK (fun k => k < w1.heap.size ∨ A k) kb qb qg 5 [97, 98] [] false false w4 from (show ([] : List UInt8) ++ (rdT ⟨#[97, 98, 99]⟩ 0 2).data.toList.take 2 = [97, 98] by decide +kernel) ▸ h4.lk)
  have W4 := Kp.mk (show WR A b 2 false ⟨#[97, 98, 99]⟩ .empty w4 from h4.wr)
  have K4 := Kp.mk (GK.out.trans (h4.kp.mono fun k hk => ⟨.inl (by have := HB1.out.size; omega), fun ha => GA.out k ha hk⟩))
  clear h4
  have HO := Kp.mk (show oB [97, 98] = ⟨#[97, 98]⟩ from rfl)
  go_wp2_with fail
  refine (lk_left _ _ _ _ _ _ _ _ _ _ H4.out).mono ?_
  rintro e w5 ⟨rfl, hb5⟩
  have HB5 := Kp.mk hb5
  have H5 := Kp.mk (H4.out.below hb5)
  have W5 := Kp.mk (W4.out.below hb5)
  clear hb5
  rw [HO.out]
  go_wp2_with fail
  refine (wLeft A b 2 false ⟨#[97, 98, 99]⟩ .empty _ W5.out (by decide) (by decide)).mono ?_
  rintro e w6 ⟨rfl, h6, hk6⟩
  have H6 := Kp.mk (H5.out.kpt hk6 (fun k hk => .inr hk))
  have HK6 := Kp.mk hk6
  rw [show ((((⟨#[97, 98, 99]⟩ : ByteArray).size - 2 : Nat)) : Int) = 1 from rfl]
  clear h6 hk6
  go_wp2_with fail
  refine (lk_dry _ _ _ _ _ _ _ _ _ _ H6.out).mono ?_
  rintro e w7 ⟨rfl, rfl⟩
  go_wp2_with fail
  go_ret
  refine ⟨rfl, Kpt.below ((K4.out.trans (Kpt.of HB5.out)).trans (HK6.out.mono fun k hk ha => GA.out k ha hk)) (Nat.le_refl _) (fun k hk => hk)⟩
end Go.Proofs.Ytpgnekejemockaa
