/- Words with parameters: a parameter, as the document has it, on (layer 8). -/
import Derived.Test.YtkfpioadimkogaaGreatDoorPrf
import Derived.Deep.RegionWith
namespace Go.Proofs.YtkfpioadimkogaaGreatDoor
open Go.RowKit
set_option linter.unusedVariables false
set_option linter.unusedSimpArgs false

attribute [local irreducible] preN quotedN quotedS semiAt nameAt nameEnd eqAt valAt
set_option maxRecDepth 100000 in
set_option maxHeartbeats 4000000 in
theorem rpar_e1 (x : ByteArray) (w : World) (hs : x.size ≤ 1000000) (hh : hasSemi x = true) (h2 : 0 < nameLen x) (h3 : hasEq x = true) (h4 : valLen x = 0) (h5 : 0 < quotedN (fromB x (valAt x))) :
    Calls Tryz.prog 183 #[.string x] w (RParPost x w) := by
  have z0 := pre_le blankN x
  have F := Hd.mk (rparF x)
  have HQ1 := Hd.mk (show (x.extract (preN blankN x) x.size).extract 1 (x.size - preN blankN x) = fromB x (semiAt x + 1) by have := ext2 x (preN blankN x) 1 z0; unfold semiAt; exact this)
  have z0 := pre_le blankN x
  have HPO := Hd.mk (parOk_e hh h2 h3 h4)
  have tn : ((preN tcharB (fromB x (nameAt x)) : Int) == 0) = false := szn (by have h9 := h2; unfold nameLen at h9; exact h9)
  obtain ⟨hy1, hy2⟩ := semi_first hh
  have t1 : (((x.size - preN blankN x : Nat) : Int) == 0) = false := szn (by rw [← fromB_size]; exact hy1)
  have t2 : ((((x.extract (preN blankN x) x.size)[0]'(hy1)).toNat : Int) != 59) = false := first_eq (c := 59) hy1 hy2
  have t3 : preN blankN x < x.size := (by rw [fromB_size] at hy1; omega)
  clear hy2
  have s3 : (fromB x (nameEnd x)).size ≤ 1000000 := by rw [fromB_size]; omega
  have s5 : (fromB x (valAt x)).size ≤ 1000000 := by rw [fromB_size]; omega
  obtain ⟨hk, hk2⟩ := (eq_iff (nameAt_le hh).2.2.1).1 h3
  have t5 := eqn (Nat.ne_of_lt hk)
  have t6 : (((fromB x (nameEnd x))[preN blankN (fromB x (nameEnd x))].toNat : Int) != 61) = false := by rw [bt_at, hk2]; rfl
  clear hk2
  have tv : ((preN tcharB (fromB x (valAt x)) : Int) == 0) = true := szi (by have h9 := h4; unfold valLen at h9; exact h9)
  have hq := quotedN_le (fromB x (valAt x))
  have H5 := Hd.mk h5
  clear hh h2 h3 h4
  go_enter Tryz.func183, Tryz.ntmps183
  go_wp2_with fail
  refine (ref_skip_any _ _ (by unfold maxLen; omega)).mono ?_
  rintro e w1 ⟨rfl, rfl⟩
  go_wp2_with fail
  simp only [HQ1.out]
  have z1 := pre_le blankN (fromB x (semiAt x + 1))
  refine (ref_skip_any _ _ (by unfold maxLen; simp only [fromB_size]; omega)).mono ?_
  rintro e w1 ⟨rfl, rfl⟩
  go_wp2_with fail
  simp only [ext_from, F.out.e2]
  have z2 := pre_le tcharB (fromB x (nameAt x))
  refine (ref_token4_any _ _ (by unfold maxLen; simp only [fromB_size]; omega)).mono ?_
  rintro e w1 ⟨rfl, rfl⟩
  go_wp2_with fail
  simp only [ext_up]
  refine (ref_lower_any _ _ (by rw [upB_size, fromB_size]; omega)).mono ?_
  rintro e w2 ⟨rfl, hb2⟩
  have HR2 := Hd.mk ((Bl.new w 175 #[.string ⟨#[]⟩, .string ⟨#[]⟩]).below hb2)
  have HB2 := Hd.mk (((Below.refl w.heap.size w).alloc (Nat.le_refl _) _).trans (hb2.mono (by simp)))
  clear hb2
  have hw2 : w.heap.size < w2.heap.size := HR2.out.lt
  go_wp2_with fail
  simp only [ext_from, F.out.e3]
  have z3 := pre_le blankN (fromB x (nameEnd x))
  refine (ref_skip_any _ _ (by unfold maxLen; simp only [fromB_size]; omega)).mono ?_
  rintro e w1 ⟨rfl, rfl⟩
  have hR0 := HR2.out.free 0
  have hR1 := HR2.out.free 1
  have hRc0 := HR2.out.cell 0
  have hRc1 := HR2.out.cell 1
  have hRl := HR2.out.lt
  go_wp2_with fail
  simp only [ext_from, F.out.e4]
  have z4 := pre_le blankN (fromB x (eqAt x + 1))
  refine (ref_skip_any _ _ (by unfold maxLen; simp only [fromB_size]; omega)).mono ?_
  rintro e w1 ⟨rfl, rfl⟩
  go_wp2_with fail
  simp only [ext_from, F.out.e5]
  have z5 := pre_le tcharB (fromB x (valAt x))
  refine (ref_token4_any _ _ (by unfold maxLen; simp only [fromB_size]; omega)).mono ?_
  rintro e w1 ⟨rfl, rfl⟩
  go_wp2_with fail
  refine (ref_quoted_any _ _ (by simp only [fromB_size]; omega)).mono ?_
  rintro e w1 ⟨rfl, rfl⟩
  go_wp2_with fail
  first | go_region_with (fail) | fail
  all_goals
    go_wp2_with fail
    go_simp
    simp only [ext_from, ext_up]
    refine bodyPost_ret (v := .tuple #[.agg #[.string (lowB (upB (fromB x (nameAt x)) (preN tcharB (fromB x (nameAt x))))), .string (quotedS (fromB x (valAt x)))], .string (fromB (fromB x (valAt x)) (quotedN (fromB x (valAt x)))), .bool true]) (by simp [results, Tryz.results183, go_sem, hRc0, hRc1, hRl, hw2, Nat.ne_of_gt hw2, Nat.ne_of_lt hw2, HR2.out.cell 0, HR2.out.cell 1]) rfl ⟨(lowB (upB (fromB x (nameAt x)) (preN tcharB (fromB x (nameAt x))))), (quotedS (fromB x (valAt x))), (fromB (fromB x (valAt x)) (quotedN (fromB x (valAt x)))), by rw [HPO.out.1, decide_eq_true H5.out], ?_, fun _ => ⟨?_, ?_, ?_⟩⟩
    · exact Below.drew ((((HB2.out.setCell (Nat.le_refl _) _).setCell (Nat.le_refl _) _)).alloc (by simp [World.setCell]; omega) _)
    · unfold parName nameLen; rfl
    · rw [HPO.out.2.1]
    · rw [HPO.out.2.2, F.out.e6]
end Go.Proofs.YtkfpioadimkogaaGreatDoor
