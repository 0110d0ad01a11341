/- Heads in one form (layer 50): the document's example; CanonNames. -/
import Derived.Test.YtocnecbhpofdgaaCag
import Derived.Test.YtocnecbhpofdgaaCae
namespace Go.Proofs.Ytocnecbhpofdgaa
open Go.RowKit
set_option linter.unusedVariables false
set_option linter.unusedSimpArgs false

theorem lowB_btC (s : ByteArray) (j : Nat) (h : j < s.size) : bt (lowB s) j = lowN (bt s j) := by
  have e : (lowB s).data.toList = lowL s.data.toList := by simp [lowB]
  rw [← bt_list (lowB s) j (by rw [lowB_size]; exact h), ← bt_list s j h]
  simp only [e, lowL, List.getElem_map, lowC_toNat]
theorem low_cap {t : ByteArray} (h : lowB t = t) : lowB (capB t) = t := by
  refine (ba_eq t _ ?_).symm
  apply List.ext_getElem
  · simp [lowL, capB_list]
  · intro j h1 h2
    have hj : j < t.size := by simpa using h1
    have hb : lowN (bt t j) = bt t j := by
      have := lowB_btC t j hj
      rw [h] at this
      exact this.symm
    apply UInt8.toNat_inj.1
    rw [bt_list t j hj]
    simp only [lowL, List.getElem_map, capB_list, List.getElem_range, lowC_toNat, capN_u8]
    unfold capN
    split
    · rename_i h9
      unfold lowN
      rw [if_pos (by omega)]
      omega
    · exact hb.symm
theorem low_nmL {t : ByteArray} (h : lowB t = t) : lowB (nmL t) = t := by
  unfold nmL
  split
  · rename_i e; subst e; decide +kernel
  · split
    · rename_i e; subst e; decide +kernel
    · split
      · rename_i e; subst e; decide +kernel
      · split
        · rename_i e; subst e; decide +kernel
        · exact low_cap h
theorem low_nameB (s : ByteArray) : lowB (nameB s) = lowB s := low_nmL (lowB_lowB s)
theorem nameB_nameB (s : ByteArray) : nameB (nameB s) = nameB s := by
  show nmL (lowB (nameB s)) = nmL (lowB s)
  rw [low_nameB]
theorem nameB_size (s : ByteArray) : (nameB s).size = s.size := by rw [← lowB_size (nameB s), low_nameB, lowB_size]
theorem fold_nameB (s : ByteArray) : foldB (nameB s) s = true := by
  unfold foldB
  rw [low_nameB]
  exact beq_self_eq_true _
def caL : List Fld := [(⟨#[97]⟩, ⟨#[49]⟩), (⟨#[66]⟩, ⟨#[50]⟩), (⟨#[65]⟩, ⟨#[51]⟩)]
def caR : List Fld := [(⟨#[65]⟩, ⟨#[49, 44, 32, 51]⟩), (⟨#[66]⟩, ⟨#[50]⟩)]
theorem ca_ex : cFld caL = caR := by decide +kernel
theorem ca_nm : nameB ⟨#[99, 111, 110, 116, 101, 110, 116, 45, 108, 101, 110, 103, 116, 104]⟩ = ⟨#[67, 111, 110, 116, 101, 110, 116, 45, 76, 101, 110, 103, 116, 104]⟩ := by decide +kernel
theorem rdf_two {w : World} {b : Nat} {x y x2 y2 : ByteArray} {t : TypeId} (h : w.heap[b]? = some (.cells #[.string x, .string y, .string x2, .string y2] t (0, 0))) : RdF w (.slice (some ⟨b, 0, none⟩) 2 2) [(x, y), (x2, y2)] := by
  refine ⟨_, 2, rfl, Nat.le_refl _, by unfold maxLen; omega, fun _ => ⟨b, 0, rfl, blk_lt h, fun j hj i hi => ?_⟩⟩
  simp at hj
  rcases (by omega : j = 0 ∨ j = 1) with rfl | rfl <;> rcases (by omega : i = 0 ∨ i = 1) with rfl | rfl
  · exact blk_cell (i := 0) h rfl
  · exact blk_cell (i := 1) h rfl
  · exact blk_cell (i := 2) h rfl
  · exact blk_cell (i := 3) h rfl
theorem rdf_three {w : World} {b : Nat} {x y x2 y2 x3 y3 : ByteArray} {t : TypeId} (h : w.heap[b]? = some (.cells #[.string x, .string y, .string x2, .string y2, .string x3, .string y3] t (0, 0))) : RdF w (.slice (some ⟨b, 0, none⟩) 3 3) [(x, y), (x2, y2), (x3, y3)] := by
  refine ⟨_, 3, rfl, Nat.le_refl _, by unfold maxLen; omega, fun _ => ⟨b, 0, rfl, blk_lt h, fun j hj i hi => ?_⟩⟩
  simp at hj
  rcases (by omega : j = 0 ∨ j = 1 ∨ j = 2) with rfl | rfl | rfl <;> rcases (by omega : i = 0 ∨ i = 1) with rfl | rfl
  · exact blk_cell (i := 0) h rfl
  · exact blk_cell (i := 1) h rfl
  · exact blk_cell (i := 2) h rfl
  · exact blk_cell (i := 3) h rfl
  · exact blk_cell (i := 4) h rfl
  · exact blk_cell (i := 5) h rfl
set_option maxRecDepth 100000 in
set_option maxHeartbeats 600000 in
theorem lives50_any (w : World) : Calls Try.prog 22 #[] w fun e w' => e = .returned (.bool true) ∧ Below w.heap.size w w' := by
  have hb1 := heap_alloc_new w (.cells #[.string ⟨#[97]⟩, .string ⟨#[49]⟩, .string ⟨#[66]⟩, .string ⟨#[50]⟩, .string ⟨#[65]⟩, .string ⟨#[51]⟩] 64)
  have HB0 := Kp.mk ((Below.refl w.heap.size w).alloc (Nat.le_refl _) (.cells #[.string ⟨#[97]⟩, .string ⟨#[49]⟩, .string ⟨#[66]⟩, .string ⟨#[50]⟩, .string ⟨#[65]⟩, .string ⟨#[51]⟩] 64))
  have HF := Kp.mk (cfields_any _ caL _ (rdf_three hb1) (by intro p hp; simp [caL] at hp; rcases hp with rfl | rfl | rfl <;> exact ⟨by decide, by decide⟩) (by decide))
  rw [ca_ex] at HF
  have HN := Kp.mk (fun w => cname_any ⟨#[99, 111, 110, 116, 101, 110, 116, 45, 108, 101, 110, 103, 116, 104]⟩ w (by decide))
  rw [ca_nm] at HN
  clear hb1
  go_enter Try.func22, Try.ntmps22
  go_wp2_with fail
  refine HF.out.mono ?_
  rintro e w1 ⟨v, rfl, ho, hb⟩
  have HB1 := Kp.mk (HB0.out.trans (hb.mono HB0.out.size))
  have HO := Kp.mk ho
  obtain ⟨av, cv, rfl⟩ := own_lenH ho
  clear ho hb
  go_wp2_with fail
  refine (HN.out _).mono ?_
  rintro e w2 ⟨rfl, hb⟩
  have HB2 := Kp.mk (HB1.out.trans (hb.mono HB1.out.size))
  have HO2 := Kp.mk (own_bel HO.out hb)
  clear hb
  have hA := (Below.refl w2.heap.size w2).alloc (Nat.le_refl _) (.cells #[.string ⟨#[65]⟩, .string ⟨#[49, 44, 32, 51]⟩, .string ⟨#[66]⟩, .string ⟨#[50]⟩] 64)
  have H1 := Kp.mk (rdf_own (own_bel HO2.out hA))
  have H2 := Kp.mk (rdf_two (heap_alloc_new w2 (.cells #[.string ⟨#[65]⟩, .string ⟨#[49, 44, 32, 51]⟩, .string ⟨#[66]⟩, .string ⟨#[50]⟩] 64)))
  have HB3 := Kp.mk (HB2.out.trans (hA.mono HB2.out.size))
  have HSM := Kp.mk (show sameL caR [(⟨#[65]⟩, ⟨#[49, 44, 32, 51]⟩), (⟨#[66]⟩, ⟨#[50]⟩)] = true from decide_eq_true rfl)
  clear hA
  go_wp2_with fail
  refine (rfsame_any _ _ caR _ _ H1.out H2.out (by decide) (by decide)).mono ?_
  rw [HSM.out]
  rintro e w3 ⟨rfl, hb⟩
  go_wp2_with fail
  go_ret
  exact ⟨rfl, HB3.out.trans (hb.mono HB3.out.size)⟩
end Go.Proofs.Ytocnecbhpofdgaa
