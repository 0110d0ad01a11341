/- Words with parameters: a parameter, as the document has it, on (layer 8). -/
import Derived.Test.YtkfpioadimkogaaGreatDoorPrf
import Derived.Deep.RegionWith
namespace Go.Proofs.YtkfpioadimkogaaGreatDoor
open Go.RowKit
set_option linter.unusedVariables false
set_option linter.unusedSimpArgs false

attribute [local irreducible] preN
set_option maxRecDepth 100000 in
set_option maxHeartbeats 4000000 in
theorem rpar_c1 (x : ByteArray) (w : World) (hs : x.size ≤ 1000000) (hh : hasSemi x = true) (h2 : 0 < nameLen x) (h3 : hasEq x = false) (hk : preN blankN (fromB x (nameEnd x)) = (fromB x (nameEnd x)).size) :
    Calls Tryz.prog 183 #[.string x] w (RParPost x w) := by
  have z0 := pre_le blankN x
  have F := Hd.mk (rparF x)
  have HQ1 := Hd.mk (show (x.extract (preN blankN x) x.size).extract 1 (x.size - preN blankN x) = fromB x (semiAt x + 1) by have := ext2 x (preN blankN x) 1 z0; unfold semiAt; exact this)
  have z0 := pre_le blankN x
  have HPO := Hd.mk (parOk_c hh h2 h3)
  have tn : ((preN tcharB (fromB x (nameAt x)) : Int) == 0) = false := szn (by have h9 := h2; unfold nameLen at h9; exact h9)
  obtain ⟨hy1, hy2⟩ := semi_first hh
  have t1 : (((x.size - preN blankN x : Nat) : Int) == 0) = false := szn (by rw [← fromB_size]; exact hy1)
  have t2 : ((((x.extract (preN blankN x) x.size)[0]'(hy1)).toNat : Int) != 59) = false := first_eq (c := 59) hy1 hy2
  have t3 : preN blankN x < x.size := (by rw [fromB_size] at hy1; omega)
  clear hy2
  have t5 := eqi hk
  clear hk
  clear hh h2 h3
  go_enter Tryz.func183, Tryz.ntmps183
  go_wp2_with fail
  refine (ref_skip_any _ _ (by unfold maxLen; omega)).mono ?_
  rintro e w1 ⟨rfl, rfl⟩
  go_wp2_with fail
  simp only [HQ1.out]
  have z1 := pre_le blankN (fromB x (semiAt x + 1))
  refine (ref_skip_any _ _ (by unfold maxLen; simp only [fromB_size]; omega)).mono ?_
  rintro e w1 ⟨rfl, rfl⟩
  go_wp2_with fail
  simp only [ext_from, F.out.e2]
  have z2 := pre_le tcharB (fromB x (nameAt x))
  refine (ref_token4_any _ _ (by unfold maxLen; simp only [fromB_size]; omega)).mono ?_
  rintro e w1 ⟨rfl, rfl⟩
  go_wp2_with fail
  simp only [ext_up]
  refine (ref_lower_any _ _ (by rw [upB_size, fromB_size]; omega)).mono ?_
  rintro e w2 ⟨rfl, hb2⟩
  have HR2 := Hd.mk ((Bl.new w 175 #[.string ⟨#[]⟩, .string ⟨#[]⟩]).below hb2)
  have HB2 := Hd.mk (((Below.refl w.heap.size w).alloc (Nat.le_refl _) _).trans (hb2.mono (by simp)))
  clear hb2
  have hw2 : w.heap.size < w2.heap.size := HR2.out.lt
  go_wp2_with fail
  simp only [ext_from, F.out.e3]
  have z3 := pre_le blankN (fromB x (nameEnd x))
  refine (ref_skip_any _ _ (by unfold maxLen; simp only [fromB_size]; omega)).mono ?_
  rintro e w1 ⟨rfl, rfl⟩
  have hR0 := HR2.out.free 0
  have hR1 := HR2.out.free 1
  have hRc0 := HR2.out.cell 0
  have hRc1 := HR2.out.cell 1
  have hRl := HR2.out.lt
  go_wp2_with fail
  refine bodyPost_ret (v := .tuple #[.agg #[.string (lowB (upB (fromB x (nameAt x)) (preN tcharB (fromB x (nameAt x))))), .string ⟨#[]⟩], .string (fromB x (nameEnd x)), .bool true]) (by simp [results, Tryz.results183, go_sem, hRc0, hRc1, hRl, hw2, Nat.ne_of_gt hw2, Nat.ne_of_lt hw2, HR2.out.cell 0, HR2.out.cell 1]) rfl ⟨_, _, _, by rw [HPO.out.1]; rfl, ?_, fun _ => ⟨rfl, HPO.out.2.1.symm, by rw [HPO.out.2.2]⟩⟩
  repeat (first | exact HB2.out | exact HB2.out.alloc HB2.out.size _ | exact (HB2.out.setCell (Nat.le_refl _) _).alloc (by simp [World.setCell]; omega) _ | exact ((HB2.out.setCell (Nat.le_refl _) _).setCell (Nat.le_refl _) _).alloc (by simp [World.setCell]; omega) _ | refine Below.setCell ?_ (by first | exact Nat.le_refl _ | exact Nat.le_of_lt hw2) _)
set_option maxRecDepth 100000 in
set_option maxHeartbeats 4000000 in
theorem rpar_c2 (x : ByteArray) (w : World) (hs : x.size ≤ 1000000) (hh : hasSemi x = true) (h2 : 0 < nameLen x) (h3 : hasEq x = false) (hk : preN blankN (fromB x (nameEnd x)) < (fromB x (nameEnd x)).size) :
    Calls Tryz.prog 183 #[.string x] w (RParPost x w) := by
  have z0 := pre_le blankN x
  have F := Hd.mk (rparF x)
  have HQ1 := Hd.mk (show (x.extract (preN blankN x) x.size).extract 1 (x.size - preN blankN x) = fromB x (semiAt x + 1) by have := ext2 x (preN blankN x) 1 z0; unfold semiAt; exact this)
  have z0 := pre_le blankN x
  have HPO := Hd.mk (parOk_c hh h2 h3)
  have tn : ((preN tcharB (fromB x (nameAt x)) : Int) == 0) = false := szn (by have h9 := h2; unfold nameLen at h9; exact h9)
  obtain ⟨hy1, hy2⟩ := semi_first hh
  have t1 : (((x.size - preN blankN x : Nat) : Int) == 0) = false := szn (by rw [← fromB_size]; exact hy1)
  have t2 : ((((x.extract (preN blankN x) x.size)[0]'(hy1)).toNat : Int) != 59) = false := first_eq (c := 59) hy1 hy2
  have t3 : preN blankN x < x.size := (by rw [fromB_size] at hy1; omega)
  clear hy2
  have t5 := eqn (Nat.ne_of_lt hk)
  have t6 : (((fromB x (nameEnd x))[preN blankN (fromB x (nameEnd x))].toNat : Int) != 61) = true := by
    have hc := (eq_iff (nameAt_le hh).2.2.1).2 h3 hk
    rw [bt_at, bne_iff_ne]; omega
  clear hh h2 h3
  go_enter Tryz.func183, Tryz.ntmps183
  go_wp2_with fail
  refine (ref_skip_any _ _ (by unfold maxLen; omega)).mono ?_
  rintro e w1 ⟨rfl, rfl⟩
  go_wp2_with fail
  simp only [HQ1.out]
  have z1 := pre_le blankN (fromB x (semiAt x + 1))
  refine (ref_skip_any _ _ (by unfold maxLen; simp only [fromB_size]; omega)).mono ?_
  rintro e w1 ⟨rfl, rfl⟩
  go_wp2_with fail
  simp only [ext_from, F.out.e2]
  have z2 := pre_le tcharB (fromB x (nameAt x))
  refine (ref_token4_any _ _ (by unfold maxLen; simp only [fromB_size]; omega)).mono ?_
  rintro e w1 ⟨rfl, rfl⟩
  go_wp2_with fail
  simp only [ext_up]
  refine (ref_lower_any _ _ (by rw [upB_size, fromB_size]; omega)).mono ?_
  rintro e w2 ⟨rfl, hb2⟩
  have HR2 := Hd.mk ((Bl.new w 175 #[.string ⟨#[]⟩, .string ⟨#[]⟩]).below hb2)
  have HB2 := Hd.mk (((Below.refl w.heap.size w).alloc (Nat.le_refl _) _).trans (hb2.mono (by simp)))
  clear hb2
  have hw2 : w.heap.size < w2.heap.size := HR2.out.lt
  go_wp2_with fail
  simp only [ext_from, F.out.e3]
  have z3 := pre_le blankN (fromB x (nameEnd x))
  refine (ref_skip_any _ _ (by unfold maxLen; simp only [fromB_size]; omega)).mono ?_
  rintro e w1 ⟨rfl, rfl⟩
  have hR0 := HR2.out.free 0
  have hR1 := HR2.out.free 1
  have hRc0 := HR2.out.cell 0
  have hRc1 := HR2.out.cell 1
  have hRl := HR2.out.lt
  go_wp2_with fail
  refine bodyPost_ret (v := .tuple #[.agg #[.string (lowB (upB (fromB x (nameAt x)) (preN tcharB (fromB x (nameAt x))))), .string ⟨#[]⟩], .string (fromB x (nameEnd x)), .bool true]) (by simp [results, Tryz.results183, go_sem, hRc0, hRc1, hRl, hw2, Nat.ne_of_gt hw2, Nat.ne_of_lt hw2, HR2.out.cell 0, HR2.out.cell 1]) rfl ⟨_, _, _, by rw [HPO.out.1]; rfl, ?_, fun _ => ⟨rfl, HPO.out.2.1.symm, by rw [HPO.out.2.2]⟩⟩
  repeat (first | exact HB2.out | exact HB2.out.alloc HB2.out.size _ | exact (HB2.out.setCell (Nat.le_refl _) _).alloc (by simp [World.setCell]; omega) _ | exact ((HB2.out.setCell (Nat.le_refl _) _).setCell (Nat.le_refl _) _).alloc (by simp [World.setCell]; omega) _ | refine Below.setCell ?_ (by first | exact Nat.le_refl _ | exact Nat.le_of_lt hw2) _)
end Go.Proofs.YtkfpioadimkogaaGreatDoor
