/- Steps of scripts (layer 44): the law ActEvents. -/
import Derived.Test.YtkapaglbdehhnaaAcx
import Derived.Deep.RegionHeld3
import Derived.Deep.DrawnRows
namespace Go.Proofs.Ytkapaglbdehhnaa
open Go.RowKit
set_option linter.unusedVariables false
set_option linter.unusedSimpArgs false
attribute [local go_sem ↓] Go.wp_at_zero Go.wp_at_succ

/-- What the law keeps: the connection's box, and the seven steps. -/
def EvC (B : Nat) (c o n : Int) (x : ByteArray) (w' : World) : Prop := w'.cell? ⟨B, 0, none⟩ = some (.int .i64 c) ∧ w'.cell? ⟨B, 1, none⟩ = some (.int .i64 o) ∧ w'.cell? ⟨B + 1, 0, none⟩ = some (.iface 97 (.agg #[.int .i64 c])) ∧ w'.cell? ⟨B + 1, 1, none⟩ = some (.iface 90 (.agg #[.int .i64 c, .int .i64 o, .string x])) ∧ w'.cell? ⟨B + 1, 2, none⟩ = some (.iface 99 (.agg #[.int .i64 c, .int .i64 o])) ∧ w'.cell? ⟨B + 1, 3, none⟩ = some (.iface 101 (.agg #[.int .i64 c, .int .i64 o, .int .i64 n])) ∧ w'.cell? ⟨B + 1, 4, none⟩ = some (.iface 102 (.agg #[.int .i64 c, .int .i64 o, .int .i64 n])) ∧ w'.cell? ⟨B + 1, 5, none⟩ = some (.iface 104 (.agg #[.int .i64 n])) ∧ w'.cell? ⟨B + 1, 6, none⟩ = some (.iface 105 (.agg #[.int .i64 c]))
theorem EvC.kept {B : Nat} {c o n : Int} {x : ByteArray} {W w1 : World} (h : EvC B c o n x W) (hB : B + 1 < W.heap.size) (hb : Below W.heap.size W w1) : EvC B c o n x w1 := by
  have hc := (bcell hb).1
  unfold EvC at *
  simp only [hc B _ (show B < W.heap.size by omega), hc (B + 1) _ hB]
  exact h


set_option maxRecDepth 100000 in
set_option maxHeartbeats 40000000 in
theorem aevents_core (c o n : Int) (s x : ByteArray) (w : World) (hc : (s.size ≤ 6000 ∧ x = s) ∨ (¬ s.size ≤ 6000 ∧ x = s.extract 0 6000)) :
    Calls Try.prog 10 #[.agg #[.int .i64 c, .int .i64 o], .int .i64 n, .string s] w fun e w' => e = .returned (.bool true) ∧ Below w.heap.size w w' := by
  have hna1 := na1
  have hme1 := me1
  have hna2 := na2
  have hme2 := me2
  have hna3 := na3
  have hme3 := me3
  have hna4 := na4
  have hme4 := me4
  have hna5 := na5
  have hme5 := me5
  have hna6 := na6
  have hme6 := me6
  have hna7 := na7
  have hme7 := me7
  rcases hc with ⟨hn, hx⟩ | ⟨hn, hx⟩
  all_goals
    have HX := Lib.hid hx
    clear hx
    go_enter Try.func10, Try.ntmps10
    go_wp2_with fail
    rw [← HX.out]
    go_loopw [47] (fun i wr => ∃ k : Nat, k ≤ 7 ∧ i = .int .i64 k ∧ EvC w.heap.size c o n x wr ∧ Below w.heap.size w wr ∧ w.heap.size + 1 < wr.heap.size) (fun i _ => 7 - (intOf i).toNat)
    case atStart =>
      refine ⟨0, by omega, rfl, ?_, ?_, ?_⟩
      · unfold EvC
        and_intros <;> go_simp
      · exact bal (bal (Below.refl _ _) _) _
      · simp
    case round =>
      obtain ⟨k, hk, rfl, hev, hbel, hsz⟩ := hrel
      have HE := Lib.hid hev
      have HB := Lib.hid hbel
      obtain ⟨p0, p1, p2, p3, p4, p5, p6, p7, p8⟩ := hev
      clear hbel
      have hway : k = 0 ∨ k = 1 ∨ k = 2 ∨ k = 3 ∨ k = 4 ∨ k = 5 ∨ k = 6 ∨ k = 7 := by omega
      rcases hway with rfl | rfl | rfl | rfl | rfl | rfl | rfl | rfl
      · cases hr : rightB 1 c 0 0 (ByteArray.size ⟨#[]⟩)
        all_goals
          have HR := Lib.hid hr
          clear hr
          go_wp2_with fail
          refine (aev1 _ _).mono ?_
          rintro e w1 ⟨rfl, hb1⟩
          have hz1 := hb1.size
          have HB1 := Lib.hid hb1
          clear hb1
          go_wp2_with fail
          first | (refine (aof1 _ _ _ _ _ HR.out).mono ?_) | (refine (aof_none _ _ _ _ _ _ HR.out).mono ?_)
          rintro e w2 ⟨rfl, hb2⟩
          have g0 : w2.cell? ⟨w1.heap.size, 0, none⟩ = some (.int .i64 1) := by rw [(bcell hb2).1 _ _ (by simp)]; go_simp
          have g1 : w2.cell? ⟨w1.heap.size, 1, none⟩ = some (.int .i64 c) := by rw [(bcell hb2).1 _ _ (by simp)]; go_simp
          have g2 : w2.cell? ⟨w1.heap.size, 2, none⟩ = some (.int .i64 0) := by rw [(bcell hb2).1 _ _ (by simp)]; go_simp
          have g3 : w2.cell? ⟨w1.heap.size, 3, none⟩ = some (.int .i64 0) := by rw [(bcell hb2).1 _ _ (by simp)]; go_simp
          have g4 : w2.cell? ⟨w1.heap.size, 4, none⟩ = some (.string ⟨#[]⟩) := by rw [(bcell hb2).1 _ _ (by simp)]; go_simp
          have hz2 : w1.heap.size < w2.heap.size := by have := hb2.size; simp at this; omega
          have HB2 := Lib.hid (below_thn (bal HB1.out _) hb2)
          clear hb2
          go_wp2_with fail
          first | go_region_with (go_at_call 102; refine (aev1 _ _).mono ?_; rintro e w3 ⟨rfl, hb3⟩; have k0 := (hb3.cell (p := ⟨w1.heap.size, 0, none⟩) hz2).trans g0; have k1 := (hb3.cell (p := ⟨w1.heap.size, 1, none⟩) hz2).trans g1; have k2 := (hb3.cell (p := ⟨w1.heap.size, 2, none⟩) hz2).trans g2; have k3 := (hb3.cell (p := ⟨w1.heap.size, 3, none⟩) hz2).trans g3; have k4 := (hb3.cell (p := ⟨w1.heap.size, 4, none⟩) hz2).trans g4) | fail
          all_goals
            go_wp2_with fail
            go_roundw
            case rel =>
              first
                | exact ⟨1, by omega, by go_num, HE.out.kept hsz (below_thn (Below.drew HB2.out) hb3), HB.out.trans ((below_thn (Below.drew HB2.out) hb3).mono HB.out.size), Nat.lt_of_lt_of_le hsz (below_thn (Below.drew HB2.out) hb3).size⟩
                | exact ⟨1, by omega, by go_num, HE.out.kept hsz (Below.drew HB2.out), HB.out.trans ((Below.drew HB2.out).mono HB.out.size), Nat.lt_of_lt_of_le hsz HB2.out.size⟩
            case measure => simp [intOf]
      · cases hr : rightB 2 c o 0 (ByteArray.size x)
        all_goals
          have HR := Lib.hid hr
          clear hr
          go_wp2_with fail
          refine (aev2 _ _ _ _).mono ?_
          rintro e w1 ⟨rfl, hb1⟩
          have hz1 := hb1.size
          have HB1 := Lib.hid hb1
          clear hb1
          go_wp2_with fail
          first | (refine (aof2 _ _ _ _ _ HR.out).mono ?_) | (refine (aof_none _ _ _ _ _ _ HR.out).mono ?_)
          rintro e w2 ⟨rfl, hb2⟩
          have g0 : w2.cell? ⟨w1.heap.size, 0, none⟩ = some (.int .i64 2) := by rw [(bcell hb2).1 _ _ (by simp)]; go_simp
          have g1 : w2.cell? ⟨w1.heap.size, 1, none⟩ = some (.int .i64 c) := by rw [(bcell hb2).1 _ _ (by simp)]; go_simp
          have g2 : w2.cell? ⟨w1.heap.size, 2, none⟩ = some (.int .i64 o) := by rw [(bcell hb2).1 _ _ (by simp)]; go_simp
          have g3 : w2.cell? ⟨w1.heap.size, 3, none⟩ = some (.int .i64 0) := by rw [(bcell hb2).1 _ _ (by simp)]; go_simp
          have g4 : w2.cell? ⟨w1.heap.size, 4, none⟩ = some (.string x) := by rw [(bcell hb2).1 _ _ (by simp)]; go_simp
          have hz2 : w1.heap.size < w2.heap.size := by have := hb2.size; simp at this; omega
          have HB2 := Lib.hid (below_thn (bal HB1.out _) hb2)
          clear hb2
          go_wp2_with fail
          first | go_region_with (go_at_call 101; refine (aev2 _ _ _ _).mono ?_; rintro e w3 ⟨rfl, hb3⟩; have k0 := (hb3.cell (p := ⟨w1.heap.size, 0, none⟩) hz2).trans g0; have k1 := (hb3.cell (p := ⟨w1.heap.size, 1, none⟩) hz2).trans g1; have k2 := (hb3.cell (p := ⟨w1.heap.size, 2, none⟩) hz2).trans g2; have k3 := (hb3.cell (p := ⟨w1.heap.size, 3, none⟩) hz2).trans g3; have k4 := (hb3.cell (p := ⟨w1.heap.size, 4, none⟩) hz2).trans g4) | fail
          all_goals
            go_wp2_with fail
            go_roundw
            case rel =>
              first
                | exact ⟨2, by omega, by go_num, HE.out.kept hsz (below_thn (Below.drew HB2.out) hb3), HB.out.trans ((below_thn (Below.drew HB2.out) hb3).mono HB.out.size), Nat.lt_of_lt_of_le hsz (below_thn (Below.drew HB2.out) hb3).size⟩
                | exact ⟨2, by omega, by go_num, HE.out.kept hsz (Below.drew HB2.out), HB.out.trans ((Below.drew HB2.out).mono HB.out.size), Nat.lt_of_lt_of_le hsz HB2.out.size⟩
            case measure => simp [intOf]
      · cases hr : rightB 3 c o 0 (ByteArray.size ⟨#[]⟩)
        all_goals
          have HR := Lib.hid hr
          clear hr
          go_wp2_with fail
          refine (aev3 _ _ _).mono ?_
          rintro e w1 ⟨rfl, hb1⟩
          have hz1 := hb1.size
          have HB1 := Lib.hid hb1
          clear hb1
          go_wp2_with fail
          first | (refine (aof3 _ _ _ _ _ HR.out).mono ?_) | (refine (aof_none _ _ _ _ _ _ HR.out).mono ?_)
          rintro e w2 ⟨rfl, hb2⟩
          have g0 : w2.cell? ⟨w1.heap.size, 0, none⟩ = some (.int .i64 3) := by rw [(bcell hb2).1 _ _ (by simp)]; go_simp
          have g1 : w2.cell? ⟨w1.heap.size, 1, none⟩ = some (.int .i64 c) := by rw [(bcell hb2).1 _ _ (by simp)]; go_simp
          have g2 : w2.cell? ⟨w1.heap.size, 2, none⟩ = some (.int .i64 o) := by rw [(bcell hb2).1 _ _ (by simp)]; go_simp
          have g3 : w2.cell? ⟨w1.heap.size, 3, none⟩ = some (.int .i64 0) := by rw [(bcell hb2).1 _ _ (by simp)]; go_simp
          have g4 : w2.cell? ⟨w1.heap.size, 4, none⟩ = some (.string ⟨#[]⟩) := by rw [(bcell hb2).1 _ _ (by simp)]; go_simp
          have hz2 : w1.heap.size < w2.heap.size := by have := hb2.size; simp at this; omega
          have HB2 := Lib.hid (below_thn (bal HB1.out _) hb2)
          clear hb2
          go_wp2_with fail
          first | go_region_with (go_at_call 103; refine (aev3 _ _ _).mono ?_; rintro e w3 ⟨rfl, hb3⟩; have k0 := (hb3.cell (p := ⟨w1.heap.size, 0, none⟩) hz2).trans g0; have k1 := (hb3.cell (p := ⟨w1.heap.size, 1, none⟩) hz2).trans g1; have k2 := (hb3.cell (p := ⟨w1.heap.size, 2, none⟩) hz2).trans g2; have k3 := (hb3.cell (p := ⟨w1.heap.size, 3, none⟩) hz2).trans g3; have k4 := (hb3.cell (p := ⟨w1.heap.size, 4, none⟩) hz2).trans g4) | fail
          all_goals
            go_wp2_with fail
            go_roundw
            case rel =>
              first
                | exact ⟨3, by omega, by go_num, HE.out.kept hsz (below_thn (Below.drew HB2.out) hb3), HB.out.trans ((below_thn (Below.drew HB2.out) hb3).mono HB.out.size), Nat.lt_of_lt_of_le hsz (below_thn (Below.drew HB2.out) hb3).size⟩
                | exact ⟨3, by omega, by go_num, HE.out.kept hsz (Below.drew HB2.out), HB.out.trans ((Below.drew HB2.out).mono HB.out.size), Nat.lt_of_lt_of_le hsz HB2.out.size⟩
            case measure => simp [intOf]
      · cases hr : rightB 4 c o n (ByteArray.size ⟨#[]⟩)
        all_goals
          have HR := Lib.hid hr
          clear hr
          go_wp2_with fail
          refine (aev4 _ _ _ _).mono ?_
          rintro e w1 ⟨rfl, hb1⟩
          have hz1 := hb1.size
          have HB1 := Lib.hid hb1
          clear hb1
          go_wp2_with fail
          first | (refine (aof4 _ _ _ _ _ HR.out).mono ?_) | (refine (aof_none _ _ _ _ _ _ HR.out).mono ?_)
          rintro e w2 ⟨rfl, hb2⟩
          have g0 : w2.cell? ⟨w1.heap.size, 0, none⟩ = some (.int .i64 4) := by rw [(bcell hb2).1 _ _ (by simp)]; go_simp
          have g1 : w2.cell? ⟨w1.heap.size, 1, none⟩ = some (.int .i64 c) := by rw [(bcell hb2).1 _ _ (by simp)]; go_simp
          have g2 : w2.cell? ⟨w1.heap.size, 2, none⟩ = some (.int .i64 o) := by rw [(bcell hb2).1 _ _ (by simp)]; go_simp
          have g3 : w2.cell? ⟨w1.heap.size, 3, none⟩ = some (.int .i64 n) := by rw [(bcell hb2).1 _ _ (by simp)]; go_simp
          have g4 : w2.cell? ⟨w1.heap.size, 4, none⟩ = some (.string ⟨#[]⟩) := by rw [(bcell hb2).1 _ _ (by simp)]; go_simp
          have hz2 : w1.heap.size < w2.heap.size := by have := hb2.size; simp at this; omega
          have HB2 := Lib.hid (below_thn (bal HB1.out _) hb2)
          clear hb2
          go_wp2_with fail
          first | go_region_with (go_at_call 104; refine (aev4 _ _ _ _).mono ?_; rintro e w3 ⟨rfl, hb3⟩; have k0 := (hb3.cell (p := ⟨w1.heap.size, 0, none⟩) hz2).trans g0; have k1 := (hb3.cell (p := ⟨w1.heap.size, 1, none⟩) hz2).trans g1; have k2 := (hb3.cell (p := ⟨w1.heap.size, 2, none⟩) hz2).trans g2; have k3 := (hb3.cell (p := ⟨w1.heap.size, 3, none⟩) hz2).trans g3; have k4 := (hb3.cell (p := ⟨w1.heap.size, 4, none⟩) hz2).trans g4) | fail
          all_goals
            go_wp2_with fail
            go_roundw
            case rel =>
              first
                | exact ⟨4, by omega, by go_num, HE.out.kept hsz (below_thn (Below.drew HB2.out) hb3), HB.out.trans ((below_thn (Below.drew HB2.out) hb3).mono HB.out.size), Nat.lt_of_lt_of_le hsz (below_thn (Below.drew HB2.out) hb3).size⟩
                | exact ⟨4, by omega, by go_num, HE.out.kept hsz (Below.drew HB2.out), HB.out.trans ((Below.drew HB2.out).mono HB.out.size), Nat.lt_of_lt_of_le hsz HB2.out.size⟩
            case measure => simp [intOf]
      · cases hr : rightB 5 c o n (ByteArray.size ⟨#[]⟩)
        all_goals
          have HR := Lib.hid hr
          clear hr
          go_wp2_with fail
          refine (aev5 _ _ _ _).mono ?_
          rintro e w1 ⟨rfl, hb1⟩
          have hz1 := hb1.size
          have HB1 := Lib.hid hb1
          clear hb1
          go_wp2_with fail
          first | (refine (aof5 _ _ _ _ _ HR.out).mono ?_) | (refine (aof_none _ _ _ _ _ _ HR.out).mono ?_)
          rintro e w2 ⟨rfl, hb2⟩
          have g0 : w2.cell? ⟨w1.heap.size, 0, none⟩ = some (.int .i64 5) := by rw [(bcell hb2).1 _ _ (by simp)]; go_simp
          have g1 : w2.cell? ⟨w1.heap.size, 1, none⟩ = some (.int .i64 c) := by rw [(bcell hb2).1 _ _ (by simp)]; go_simp
          have g2 : w2.cell? ⟨w1.heap.size, 2, none⟩ = some (.int .i64 o) := by rw [(bcell hb2).1 _ _ (by simp)]; go_simp
          have g3 : w2.cell? ⟨w1.heap.size, 3, none⟩ = some (.int .i64 n) := by rw [(bcell hb2).1 _ _ (by simp)]; go_simp
          have g4 : w2.cell? ⟨w1.heap.size, 4, none⟩ = some (.string ⟨#[]⟩) := by rw [(bcell hb2).1 _ _ (by simp)]; go_simp
          have hz2 : w1.heap.size < w2.heap.size := by have := hb2.size; simp at this; omega
          have HB2 := Lib.hid (below_thn (bal HB1.out _) hb2)
          clear hb2
          go_wp2_with fail
          first | go_region_with (go_at_call 105; refine (aev5 _ _ _ _).mono ?_; rintro e w3 ⟨rfl, hb3⟩; have k0 := (hb3.cell (p := ⟨w1.heap.size, 0, none⟩) hz2).trans g0; have k1 := (hb3.cell (p := ⟨w1.heap.size, 1, none⟩) hz2).trans g1; have k2 := (hb3.cell (p := ⟨w1.heap.size, 2, none⟩) hz2).trans g2; have k3 := (hb3.cell (p := ⟨w1.heap.size, 3, none⟩) hz2).trans g3; have k4 := (hb3.cell (p := ⟨w1.heap.size, 4, none⟩) hz2).trans g4) | fail
          all_goals
            go_wp2_with fail
            go_roundw
            case rel =>
              first
                | exact ⟨5, by omega, by go_num, HE.out.kept hsz (below_thn (Below.drew HB2.out) hb3), HB.out.trans ((below_thn (Below.drew HB2.out) hb3).mono HB.out.size), Nat.lt_of_lt_of_le hsz (below_thn (Below.drew HB2.out) hb3).size⟩
                | exact ⟨5, by omega, by go_num, HE.out.kept hsz (Below.drew HB2.out), HB.out.trans ((Below.drew HB2.out).mono HB.out.size), Nat.lt_of_lt_of_le hsz HB2.out.size⟩
            case measure => simp [intOf]
      · cases hr : rightB 6 0 0 n (ByteArray.size ⟨#[]⟩)
        all_goals
          have HR := Lib.hid hr
          clear hr
          go_wp2_with fail
          refine (aev6 _ _).mono ?_
          rintro e w1 ⟨rfl, hb1⟩
          have hz1 := hb1.size
          have HB1 := Lib.hid hb1
          clear hb1
          go_wp2_with fail
          first | (refine (aof6 _ _ _ _ _ HR.out).mono ?_) | (refine (aof_none _ _ _ _ _ _ HR.out).mono ?_)
          rintro e w2 ⟨rfl, hb2⟩
          have g0 : w2.cell? ⟨w1.heap.size, 0, none⟩ = some (.int .i64 6) := by rw [(bcell hb2).1 _ _ (by simp)]; go_simp
          have g1 : w2.cell? ⟨w1.heap.size, 1, none⟩ = some (.int .i64 0) := by rw [(bcell hb2).1 _ _ (by simp)]; go_simp
          have g2 : w2.cell? ⟨w1.heap.size, 2, none⟩ = some (.int .i64 0) := by rw [(bcell hb2).1 _ _ (by simp)]; go_simp
          have g3 : w2.cell? ⟨w1.heap.size, 3, none⟩ = some (.int .i64 n) := by rw [(bcell hb2).1 _ _ (by simp)]; go_simp
          have g4 : w2.cell? ⟨w1.heap.size, 4, none⟩ = some (.string ⟨#[]⟩) := by rw [(bcell hb2).1 _ _ (by simp)]; go_simp
          have hz2 : w1.heap.size < w2.heap.size := by have := hb2.size; simp at this; omega
          have HB2 := Lib.hid (below_thn (bal HB1.out _) hb2)
          clear hb2
          go_wp2_with fail
          first | go_region_with (go_at_call 106; refine (aev6 _ _).mono ?_; rintro e w3 ⟨rfl, hb3⟩; have k0 := (hb3.cell (p := ⟨w1.heap.size, 0, none⟩) hz2).trans g0; have k1 := (hb3.cell (p := ⟨w1.heap.size, 1, none⟩) hz2).trans g1; have k2 := (hb3.cell (p := ⟨w1.heap.size, 2, none⟩) hz2).trans g2; have k3 := (hb3.cell (p := ⟨w1.heap.size, 3, none⟩) hz2).trans g3; have k4 := (hb3.cell (p := ⟨w1.heap.size, 4, none⟩) hz2).trans g4) | fail
          all_goals
            go_wp2_with fail
            go_roundw
            case rel =>
              first
                | exact ⟨6, by omega, by go_num, HE.out.kept hsz (below_thn (Below.drew HB2.out) hb3), HB.out.trans ((below_thn (Below.drew HB2.out) hb3).mono HB.out.size), Nat.lt_of_lt_of_le hsz (below_thn (Below.drew HB2.out) hb3).size⟩
                | exact ⟨6, by omega, by go_num, HE.out.kept hsz (Below.drew HB2.out), HB.out.trans ((Below.drew HB2.out).mono HB.out.size), Nat.lt_of_lt_of_le hsz HB2.out.size⟩
            case measure => simp [intOf]
      · cases hr : rightB 7 c 0 0 (ByteArray.size ⟨#[]⟩)
        all_goals
          have HR := Lib.hid hr
          clear hr
          go_wp2_with fail
          refine (aev7 _ _).mono ?_
          rintro e w1 ⟨rfl, hb1⟩
          have hz1 := hb1.size
          have HB1 := Lib.hid hb1
          clear hb1
          go_wp2_with fail
          first | (refine (aof7 _ _ _ _ _ HR.out).mono ?_) | (refine (aof_none _ _ _ _ _ _ HR.out).mono ?_)
          rintro e w2 ⟨rfl, hb2⟩
          have g0 : w2.cell? ⟨w1.heap.size, 0, none⟩ = some (.int .i64 7) := by rw [(bcell hb2).1 _ _ (by simp)]; go_simp
          have g1 : w2.cell? ⟨w1.heap.size, 1, none⟩ = some (.int .i64 c) := by rw [(bcell hb2).1 _ _ (by simp)]; go_simp
          have g2 : w2.cell? ⟨w1.heap.size, 2, none⟩ = some (.int .i64 0) := by rw [(bcell hb2).1 _ _ (by simp)]; go_simp
          have g3 : w2.cell? ⟨w1.heap.size, 3, none⟩ = some (.int .i64 0) := by rw [(bcell hb2).1 _ _ (by simp)]; go_simp
          have g4 : w2.cell? ⟨w1.heap.size, 4, none⟩ = some (.string ⟨#[]⟩) := by rw [(bcell hb2).1 _ _ (by simp)]; go_simp
          have hz2 : w1.heap.size < w2.heap.size := by have := hb2.size; simp at this; omega
          have HB2 := Lib.hid (below_thn (bal HB1.out _) hb2)
          clear hb2
          go_wp2_with fail
          first | go_region_with (go_at_call 107; refine (aev7 _ _).mono ?_; rintro e w3 ⟨rfl, hb3⟩; have k0 := (hb3.cell (p := ⟨w1.heap.size, 0, none⟩) hz2).trans g0; have k1 := (hb3.cell (p := ⟨w1.heap.size, 1, none⟩) hz2).trans g1; have k2 := (hb3.cell (p := ⟨w1.heap.size, 2, none⟩) hz2).trans g2; have k3 := (hb3.cell (p := ⟨w1.heap.size, 3, none⟩) hz2).trans g3; have k4 := (hb3.cell (p := ⟨w1.heap.size, 4, none⟩) hz2).trans g4) | fail
          all_goals
            go_wp2_with fail
            go_roundw
            case rel =>
              first
                | exact ⟨7, by omega, by go_num, HE.out.kept hsz (below_thn (Below.drew HB2.out) hb3), HB.out.trans ((below_thn (Below.drew HB2.out) hb3).mono HB.out.size), Nat.lt_of_lt_of_le hsz (below_thn (Below.drew HB2.out) hb3).size⟩
                | exact ⟨7, by omega, by go_num, HE.out.kept hsz (Below.drew HB2.out), HB.out.trans ((Below.drew HB2.out).mono HB.out.size), Nat.lt_of_lt_of_le hsz HB2.out.size⟩
            case measure => simp [intOf]
      · go_wp2_with fail
        go_region_held3 (fun w' => w'.cell? ⟨w.heap.size, 0, none⟩ = some (.int .i64 c) ∧ w'.cell? ⟨w.heap.size, 1, none⟩ = some (.int .i64 o) ∧ w'.cell? ⟨w.heap.size + 1, 0, none⟩ = some (.iface 97 (.agg #[.int .i64 c])) ∧ w'.cell? ⟨w.heap.size + 1, 1, none⟩ = some (.iface 90 (.agg #[.int .i64 c, .int .i64 o, .string x])) ∧ w'.cell? ⟨w.heap.size + 1, 2, none⟩ = some (.iface 99 (.agg #[.int .i64 c, .int .i64 o])) ∧ w'.cell? ⟨w.heap.size + 1, 3, none⟩ = some (.iface 101 (.agg #[.int .i64 c, .int .i64 o, .int .i64 n])) ∧ w'.cell? ⟨w.heap.size + 1, 4, none⟩ = some (.iface 102 (.agg #[.int .i64 c, .int .i64 o, .int .i64 n])) ∧ w'.cell? ⟨w.heap.size + 1, 5, none⟩ = some (.iface 104 (.agg #[.int .i64 n])) ∧ w'.cell? ⟨w.heap.size + 1, 6, none⟩ = some (.iface 105 (.agg #[.int .i64 c]))) ((show EvC w.heap.size c o n x _; first | exact HE15.out | exact HE14.out | exact HE13.out | exact HE12.out | exact HE11.out | exact HE.out))
          (first
            | (go_at_call 101; refine (aev2 _ _ _ _).mono ?_; rintro e w11 ⟨rfl, hb11⟩; have HE11 := Lib.hid (EvC.kept (show EvC w.heap.size c o n x wr.drew from HE.out) hsz hb11); have hz11 := Nat.lt_of_lt_of_le hsz hb11.size)
            | (go_at_call 104; refine (aev4 _ _ _ _).mono ?_; rintro e w12 ⟨rfl, hb12⟩; have HE12 := Lib.hid (EvC.kept HE11.out hz11 hb12); have hz12 := Nat.lt_of_lt_of_le hz11 hb12.size)
            | (go_at_call 106; refine (aev6 _ _).mono ?_; rintro e w13 ⟨rfl, hb13⟩; have HE13 := Lib.hid (EvC.kept HE12.out hz12 hb13); have hz13 := Nat.lt_of_lt_of_le hz12 hb13.size)
            | (go_at_call 107; refine (aev7 _ _).mono ?_; rintro e w14 ⟨rfl, hb14⟩; have HE14 := Lib.hid (EvC.kept HE13.out hz13 hb14); have hz14 := Nat.lt_of_lt_of_le hz13 hb14.size)
            | (go_at_call 47; refine (lives44_any _).mono ?_; rintro e w15 ⟨rfl, hb15⟩; have HE15 := Lib.hid (EvC.kept HE14.out hz14 hb15)))
        all_goals
          go_wp2_with fail
          go_ret
          exact ⟨by first | rfl | exact bret (by simp), below_thn (below_thn (below_thn (below_thn (below_thn (Below.drew HB.out) hb11) hb12) hb13) hb14) hb15⟩
end Go.Proofs.Ytkapaglbdehhnaa
