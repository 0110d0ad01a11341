/- Heads (layer 22): the document's example (bin/mkhqh.py). -/
import Derived.Test.YtcbfhlnnfnpkdaaGreatDoorHqg
namespace Go.Proofs.YtcbfhlnnfnpkdaaGreatDoor
open Go.RowKit
set_option linter.unusedVariables false
set_option linter.unusedSimpArgs false

set_option maxRecDepth 100000 in
set_option maxHeartbeats 1000000 in
theorem wide_any (w : World) : Calls Tryz.prog 24 #[] w fun e w' => e = .returned (.agg #[.int .i64 65536, .int .i64 1000, .int .i64 0, .int .i64 0, .int .i64 0]) ∧ Below w.heap.size w w' := by
  have HA := Kp.mk (heap_alloc_new w (.cells #[.int .i64 0, .int .i64 0, .int .i64 0, .int .i64 0, .int .i64 0] 23))
  have HB := Kp.mk ((Below.refl _ w).alloc (Nat.le_refl _) (.cells #[.int .i64 0, .int .i64 0, .int .i64 0, .int .i64 0, .int .i64 0] 23))
  go_enter Tryz.func24, Tryz.ntmps24
  go_upto_region 1 with fail
  repeat ((fail_if_success (with_reducible show Oper.wp _ (Oper.mk _ (.store _ _ _) _ _ _ _) _ _ _ _)); go_step)
  refine wp_store_row _ _ _ (by rfl) _ #[.int .i64 65536, .int .i64 1000, .int .i64 0, .int .i64 0, .int .i64 0] (by rfl) (by rfl) _ _ HA.out (by kernel_rfl) rfl (by decide +kernel) ?_
  go_wp2_with fail
  refine bodyPost_ret (v := .agg #[.int .i64 65536, .int .i64 1000, .int .i64 0, .int .i64 0, .int .i64 0]) ?_ rfl ⟨rfl, below_setRow HB.out (Nat.le_refl _) _⟩
  exact results_cell_row (p := 0) (ty := 23) (by kernel_rfl) _ _ w.heap.size _ _ _ _ (by rfl) (setRow_heap _ _ _ _ _ _ HA.out) Tryz.underlying23 rfl (by kernel_rfl)
def ex22S : ByteArray := ⟨#[71, 69, 84, 32, 47, 32, 72, 84, 84, 80, 47, 49, 46, 49, 13, 10, 72, 111, 115, 116, 58, 32, 97, 13, 10, 13, 10, 120]⟩
theorem ex22a : (runP 65536 1 1000 0 ps0 ex22S.data.toList).1 = 27 ∧ (runP 65536 1 1000 0 ps0 ex22S.data.toList).2.ended = true ∧ (runP 65536 1 1000 0 ps0 ex22S.data.toList).2.err = 0 := by decide +kernel
theorem ex22b : (runP 65536 1 1000 0 ps0 ex22S.data.toList).2.hd.m = ⟨#[71, 69, 84]⟩ ∧ (runP 65536 1 1000 0 ps0 ex22S.data.toList).2.hd.t = ⟨#[47]⟩ ∧ (runP 65536 1 1000 0 ps0 ex22S.data.toList).2.hd.mi = 1 ∧ (runP 65536 1 1000 0 ps0 ex22S.data.toList).2.hd.st = 0 ∧ (runP 65536 1 1000 0 ps0 ex22S.data.toList).2.hd.r = ⟨#[]⟩ ∧ (runP 65536 1 1000 0 ps0 ex22S.data.toList).2.hd.f = [(⟨#[72, 111, 115, 116]⟩, ⟨#[97]⟩)] := by decide +kernel
theorem ex22c : prnB ⟨#[71, 69, 84]⟩ ⟨#[47]⟩ 1 0 ⟨#[]⟩ [(⟨#[72, 111, 115, 116]⟩, ⟨#[97]⟩)] = ⟨#[71, 69, 84, 32, 47, 32, 72, 84, 84, 80, 47, 49, 46, 49, 13, 10, 72, 111, 115, 116, 58, 32, 97, 13, 10, 13, 10]⟩ := by decide +kernel
set_option maxRecDepth 100000 in
set_option maxHeartbeats 2000000 in
theorem lives22_any (w : World) : Calls Tryz.prog 8 #[] w fun e w' => e = .returned (.bool true) ∧ Below w.heap.size w w' := by
  go_enter Tryz.func8, Tryz.ntmps8
  go_wp2_with fail
  refine (wide_any _).mono ?_
  rintro e w1 ⟨rfl, hb1⟩
  have HB1 := Kp.mk hb1
  clear hb1
  go_wp2_with fail
  refine (pnew_any 1 65536 1000 0 0 0 _ (.inl rfl) (by omega)).mono ?_
  rintro e w2 ⟨b, bl, rfl, hp, hb, hbl, hb2⟩
  have HP := Kp.mk hp
  have HB2 := Kp.mk (HB1.out.trans (hb2.mono HB1.out.size))
  have HBB := Kp.mk (show w.heap.size ≤ b ∧ w.heap.size ≤ bl from ⟨Nat.le_trans HB1.out.size hb, Nat.le_trans HB1.out.size hbl⟩)
  have HFD := Kp.mk (pfeed_any _ b bl 65536 1 65536 1000 0 0 0 ps0 ex22S _ hp (fun _ => rfl) (fun x hx => by cases hx) (by decide) (by omega))
  have HE1 := Kp.mk ex22a.1
  have HE2 := Kp.mk ex22a.2.1
  have HE3 := Kp.mk ex22a.2.2
  have HE4 := Kp.mk ex22b
  generalize (runP 65536 1 1000 0 ps0 ex22S.data.toList) = RR at HFD HE1 HE2 HE3 HE4
  obtain ⟨nn, P⟩ := RR
  dsimp only at HFD HE1 HE2 HE3 HE4
  rw [show errP P = 0 by unfold errP; rw [if_pos HE2.out, HE3.out], HE1.out] at HFD
  unfold ex22S at HFD
  clear hp hb hbl hb2 HE1
  go_wp2_with fail
  refine HFD.out.mono ?_
  rintro e w3 ⟨rfl, A3, hp3, ha3, hk3⟩
  have HP3 := Kp.mk hp3
  have HB3 := Kp.mk (HB2.out.trans (hk3.below (B := w.heap.size) HB2.out.size (fun k hk h => by have := HBB.out; rcases h with rfl | rfl <;> omega)))
  have HDN := Kp.mk (pdone_any _ b bl 65536 1 65536 1000 0 0 0 P _ hp3)
  have HHD := Kp.mk (phead_any _ b bl 65536 1 65536 1000 0 0 0 P _ hp3 HE2.out HE3.out (by rw [HE4.out.2.2.2.2.2]; decide))
  rw [HE2.out, HE3.out] at HDN
  obtain ⟨g1, g2, g3, g4, g5, g6⟩ := HE4.out
  rw [g1, g2, g3, g4, g5, g6] at HHD
  clear hp3 ha3 hk3 HFD g1 g2 g3 g4 g5 g6
  go_wp2_with fail
  refine HDN.out.mono ?_
  rintro e w4 ⟨rfl, rfl⟩
  go_wp2_with fail
  refine HHD.out.mono ?_
  rintro e w5 ⟨u, rfl, hu, hb5⟩
  have HB5 := Kp.mk (HB3.out.trans (hb5.mono HB3.out.size))
  have HPR := Kp.mk (hprint22_any ⟨#[71, 69, 84]⟩ ⟨#[47]⟩ 1 0 ⟨#[]⟩ u [(⟨#[72, 111, 115, 116]⟩, ⟨#[97]⟩)] _ hu (by decide) (fun p hp => by simp at hp; subst hp; exact ⟨by decide, by decide⟩) (by decide) (by decide) (by decide) (by omega) (by omega))
  rw [ex22c] at HPR
  clear hu hb5
  go_wp2_with fail
  refine HPR.out.mono ?_
  rintro e w6 ⟨rfl, hb6⟩
  have HB6 := Kp.mk (HB5.out.trans (hb6.mono HB5.out.size))
  clear hb6
  go_wp2_with fail
  refine (wide_any _).mono ?_
  rintro e w7 ⟨rfl, hb7⟩
  have HB7 := Kp.mk (HB6.out.trans (hb7.mono HB6.out.size))
  clear hb7
  go_wp2_with fail
  refine (pnew_no 3 65536 1000 0 0 0 _ (by omega) (by omega)).mono ?_
  rintro e w8 ⟨rfl, hb8⟩
  go_wp2_with fail
  go_ret
  exact ⟨rfl, HB7.out.trans (hb8.mono HB7.out.size)⟩
end Go.Proofs.YtcbfhlnnfnpkdaaGreatDoor
