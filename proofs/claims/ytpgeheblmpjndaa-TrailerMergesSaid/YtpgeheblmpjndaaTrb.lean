/- Trailers (layer 26): which names are allowed, the program's: walked. -/
import Derived.Test.YtpgeheblmpjndaaTra
import Derived.Deep.WholeRow
import Derived.Great.Walk
import Derived.Great.BuildSlice
import Derived.Deep.DeepCutAuto
namespace Go.Proofs.Ytpgeheblmpjndaa
open Go.RowKit
set_option linter.unusedVariables false
set_option linter.unusedSimpArgs false

def AMid (x : ByteArray) (w : World) (s3 : Value) (wx : World) : Prop := s3 = .pointer (some ⟨w.heap.size + 1, 0, none⟩) ∧ wx.heap[w.heap.size]? = some (.cells #[.string x] 9 (0, 0)) ∧ wx.heap[w.heap.size + 1]? = some (.cells trCells 74 (0, 0)) ∧ Below w.heap.size w wx
theorem amid_new (x : ByteArray) (w : World) : AMid x w (.pointer (some ⟨w.heap.size + 1, 0, none⟩)) ((w.alloc (.cells #[.string x] 9)).alloc (.cells trCells 74)) := by
  have hs : (w.alloc (.cells #[.string x] 9)).heap.size = w.heap.size + 1 := World.size_alloc _ _
  have k := heap_alloc_new (w.alloc (.cells #[.string x] 9)) (.cells trCells 74)
  rw [hs] at k
  exact ⟨rfl, blk_alloc (heap_alloc_new w _), k, ((Below.refl _ _).alloc (Nat.le_refl _) _).alloc (by simp) _⟩
set_option maxRecDepth 100000 in
set_option maxHeartbeats 2000000 in
theorem allowed_any (x : ByteArray) (w : World) (hx : x.size ≤ 100000) : Calls Try.prog 27 #[.string x] w fun e w' => e = .returned (.bool (alwB x)) ∧ Below w.heap.size w w' := by
  have HA := Kp.mk (amid_new x w)
  go_enter Try.func27, Try.ntmps27
  go_upto_region 1 with fail
  go_cut [3] (AMid x w)
  case first =>
    refine wp_region_list ?_
    refine wpList_buildTo rfl 74 _ rfl (some 4) rfl trCells (by kernel_rfl) ?_
    refine Great.wpList_allocTo rfl (some 3) rfl (.pointer (some ⟨(w.alloc (.cells #[.string x] 9)).heap.size, 0, none⟩)) (.cells #[.string ⟨#[]⟩, .string ⟨#[]⟩, .string ⟨#[]⟩, .string ⟨#[]⟩, .string ⟨#[]⟩, .string ⟨#[]⟩, .string ⟨#[]⟩, .string ⟨#[]⟩, .string ⟨#[]⟩, .string ⟨#[]⟩, .string ⟨#[]⟩, .string ⟨#[]⟩, .string ⟨#[]⟩, .string ⟨#[]⟩, .string ⟨#[]⟩, .string ⟨#[]⟩, .string ⟨#[]⟩, .string ⟨#[]⟩, .string ⟨#[]⟩, .string ⟨#[]⟩, .string ⟨#[]⟩, .string ⟨#[]⟩, .string ⟨#[]⟩, .string ⟨#[]⟩, .string ⟨#[]⟩, .string ⟨#[]⟩, .string ⟨#[]⟩, .string ⟨#[]⟩, .string ⟨#[]⟩, .string ⟨#[]⟩, .string ⟨#[]⟩, .string ⟨#[]⟩, .string ⟨#[]⟩, .string ⟨#[]⟩, .string ⟨#[]⟩] 74) (by kernel_rfl) ?_
    refine wpList_store_rowTo rfl 74 _ _ rfl rfl (w.alloc (.cells #[.string x] 9)).heap.size trCells rfl rfl 74 #[.string ⟨#[]⟩, .string ⟨#[]⟩, .string ⟨#[]⟩, .string ⟨#[]⟩, .string ⟨#[]⟩, .string ⟨#[]⟩, .string ⟨#[]⟩, .string ⟨#[]⟩, .string ⟨#[]⟩, .string ⟨#[]⟩, .string ⟨#[]⟩, .string ⟨#[]⟩, .string ⟨#[]⟩, .string ⟨#[]⟩, .string ⟨#[]⟩, .string ⟨#[]⟩, .string ⟨#[]⟩, .string ⟨#[]⟩, .string ⟨#[]⟩, .string ⟨#[]⟩, .string ⟨#[]⟩, .string ⟨#[]⟩, .string ⟨#[]⟩, .string ⟨#[]⟩, .string ⟨#[]⟩, .string ⟨#[]⟩, .string ⟨#[]⟩, .string ⟨#[]⟩, .string ⟨#[]⟩, .string ⟨#[]⟩, .string ⟨#[]⟩, .string ⟨#[]⟩, .string ⟨#[]⟩, .string ⟨#[]⟩, .string ⟨#[]⟩] (heap_alloc_new _ _) (by kernel_rfl) rfl (by kernel_rfl) ?_
    rw [World.setRow_alloc_new]
    refine wpList_nil ?_

    go_wp2_with fail
    go_meet
    rw [World.size_alloc]
    exact HA.out
  case rest =>
    clear HA
    obtain ⟨rfl, k0, k1, hb⟩ := hcut
    have hz : ∀ n ∈ trNames, n.size ≤ 100000 := by decide +kernel
    have HZ := Kp.mk hz
    have HL := Kp.mk (show trNames.length ≤ 1000000 by decide)
    have K0 := Kp.mk k0
    have K1 := Kp.mk k1
    have HB1 := Kp.mk hb
    have c0 := blk_cell (i := 0) k0 rfl
    clear hz k0 k1 hb
    cases ht : tokenB x
    · have HR := Kp.mk (show alwB x = false by unfold alwB; rw [ht]; rfl)
      go_wp2_with fail
      refine (oct_token_any x _ (by unfold maxLen; omega)).mono ?_
      rintro e w1 ⟨rfl, hb1⟩
      rw [ht]
      have HB2 := Kp.mk (HB1.out.trans (hb1.mono HB1.out.size))
      clear hb1
      go_wp2_with fail
      go_ret
      exact ⟨by rw [HR.out]; rfl, HB2.out⟩
    · have HR := Kp.mk (show alwB x = !tHas x trNames by unfold alwB; rw [ht]; rfl)
      go_wp2_with fail
      refine (oct_token_any x _ (by unfold maxLen; omega)).mono ?_
      rintro e w1 ⟨rfl, hb1⟩
      rw [ht]
      have HB2 := Kp.mk (HB1.out.trans (hb1.mono HB1.out.size))
      have M0 := Kp.mk (blk_cell (i := 0) ((hb1.block w.heap.size (blk_lt K0.out)).trans K0.out) rfl)
      have L0 := Kp.mk (blk_lt ((hb1.block w.heap.size (blk_lt K0.out)).trans K0.out))
      have M1 := Kp.mk (rds_blk trNames 35 rfl (by decide) ((hb1.block _ (blk_lt K1.out)).trans K1.out))
      clear hb1
      go_wp2_with fail
      refine (tcof_any _ trNames x w.heap.size _ M1.out M0.out L0.out HZ.out hx HL.out).mono ?_
      rintro e w2 ⟨rfl, hb2⟩
      have HB3 := Kp.mk (HB2.out.trans (hb2.mono HB2.out.size))
      clear hb2
      go_wp2_with fail
      go_ret
      exact ⟨by rw [HR.out]; rfl, HB3.out⟩
end Go.Proofs.Ytpgeheblmpjndaa
