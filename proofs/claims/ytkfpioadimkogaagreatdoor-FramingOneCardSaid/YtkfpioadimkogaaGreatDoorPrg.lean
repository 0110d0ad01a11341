/- Words with parameters: a parameter, as the document has it, on (layer 8). -/
import Derived.Test.YtkfpioadimkogaaGreatDoorPrf
import Derived.Deep.RegionWith
namespace Go.Proofs.YtkfpioadimkogaaGreatDoor
open Go.RowKit
set_option linter.unusedVariables false
set_option linter.unusedSimpArgs false

theorem rpar_dummy : True := trivial
set_option maxRecDepth 100000 in
set_option maxHeartbeats 4000000 in
theorem rpar_b (x : ByteArray) (w : World) (hs : x.size ≤ 1000000) (hh : hasSemi x = true) (h2 : nameLen x = 0) :
    Calls Tryz.prog 183 #[.string x] w (RParPost x w) := by
  have z0 := pre_le blankN x
  have F := Hd.mk (rparF x)
  have HQ1 := Hd.mk (show (x.extract (preN blankN x) x.size).extract 1 (x.size - preN blankN x) = fromB x (semiAt x + 1) by have := ext2 x (preN blankN x) 1 z0; unfold semiAt; exact this)
  have z0 := pre_le blankN x
  have HPO := Hd.mk (parOk_b h2)
  have HN := Hd.mk (show preN tcharB (fromB x (nameAt x)) = 0 by have h9 := h2; unfold nameLen at h9; exact h9)
  obtain ⟨hy1, hy2⟩ := semi_first hh
  have t1 : (((x.size - preN blankN x : Nat) : Int) == 0) = false := szn (by rw [← fromB_size]; exact hy1)
  have t2 : ((((x.extract (preN blankN x) x.size)[0]'(hy1)).toNat : Int) != 59) = false := first_eq (c := 59) hy1 hy2
  have t3 : preN blankN x < x.size := (by rw [fromB_size] at hy1; omega)
  clear hy2
  clear hh h2
  go_enter Tryz.func183, Tryz.ntmps183
  go_wp2_with fail
  refine (ref_skip_any _ _ (by unfold maxLen; omega)).mono ?_
  rintro e w1 ⟨rfl, rfl⟩
  go_wp2_with fail
  simp only [HQ1.out]
  have z1 := pre_le blankN (fromB x (semiAt x + 1))
  refine (ref_skip_any _ _ (by unfold maxLen; simp only [fromB_size]; omega)).mono ?_
  rintro e w1 ⟨rfl, rfl⟩
  go_wp2_with fail
  simp only [ext_from, F.out.e2]
  have z2 := pre_le tcharB (fromB x (nameAt x))
  refine (ref_token4_any _ _ (by unfold maxLen; simp only [fromB_size]; omega)).mono ?_
  rintro e w1 ⟨rfl, rfl⟩
  rw [HN.out]
  go_wp2_with fail
  refine bodyPost_ret (v := .tuple #[.agg #[.string ⟨#[]⟩, .string ⟨#[]⟩], .string ⟨#[]⟩, .bool false]) (by simp [results, Tryz.results183, go_sem]) rfl ⟨⟨#[]⟩, ⟨#[]⟩, ⟨#[]⟩, by rw [HPO.out], ?_, fun hx => by rw [HPO.out] at hx; cases hx⟩
  repeat (first | exact Below.refl _ _ | exact (Below.refl _ _).alloc (Nat.le_refl _) _ | refine Below.setCell ?_ (Nat.le_refl _) _)
end Go.Proofs.YtkfpioadimkogaaGreatDoor
