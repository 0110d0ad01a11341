/- Words with parameters: a parameter is taken, on (layer 8). -/
import Derived.Test.YtjocmjmfkgogiaaPrb
namespace Go.Proofs.Ytjocmjmfkgogiaa
open Go.RowKit
set_option linter.unusedVariables false
set_option linter.unusedSimpArgs false

theorem parOk_b {x : ByteArray} (h2 : nameLen x = 0) : parOk x = false := by unfold parOk; rw [h2]; simp
theorem parOk_c {x : ByteArray} (h1 : hasSemi x = true) (h2 : 0 < nameLen x) (h3 : hasEq x = false) : parOk x = true ∧ parVal x = ⟨#[]⟩ ∧ parEnd x = nameEnd x := by
  unfold parOk parVal parEnd; rw [h1, h3]; simp [h2]
theorem parOk_d {x : ByteArray} (h1 : hasSemi x = true) (h2 : 0 < nameLen x) (h3 : hasEq x = true) (h4 : 0 < valLen x) : parOk x = true ∧ parVal x = upB (fromB x (valAt x)) (valLen x) ∧ parEnd x = valAt x + valLen x := by
  unfold parOk parVal parEnd; rw [h1, h3]; simp [h2, h4]
theorem parOk_e {x : ByteArray} (h1 : hasSemi x = true) (h2 : 0 < nameLen x) (h3 : hasEq x = true) (h4 : valLen x = 0) : parOk x = decide (0 < quotedN (fromB x (valAt x))) ∧ parVal x = quotedS (fromB x (valAt x)) ∧ parEnd x = valAt x + quotedN (fromB x (valAt x)) := by
  unfold parOk parVal parEnd; rw [h1, h3, h4]; simp [h2]

set_option maxRecDepth 100000 in
set_option maxHeartbeats 4000000 in
theorem one_b (b n : Nat) (s : ByteArray) (w : World) (h : CurAt b s n w) (hs : s.size ≤ 140737488351232) (h1 : hasSemi (fromB s n) = true) (h2 : nameLen (fromB s n) = 0) :
    Calls Try.prog 67 #[.pointer (some ⟨b, 0, none⟩)] w (OnePost b n s w) := by
  have HC := Lib.hid h
  have F := Lib.hid (oneFacts n s)
  have hbw := h.lt
  have hle := h.le
  have HS := Lib.hid (semi_iff hle)
  have HH := Lib.hid h1
  have HPO := Lib.hid (parOk_b h2)
  have htl : (lowB (upB (fromB (fromB s n) (nameAt (fromB s n))) (preN tcharB (fromB (fromB s n) (nameAt (fromB s n)))))).toList = [] := tl_of_size (by rw [lowB_sz, upB_size, fromB_size, fromB_size]; have := preN_le tcharB (fromB (fromB s n) (nameAt (fromB s n))); rw [fromB_size, fromB_size] at this; have h9 : preN tcharB (fromB (fromB s n) (nameAt (fromB s n))) = nameLen (fromB s n) := rfl; omega)
  clear h h1 h2
  go_enter Try.func67, Try.ntmps67
  go_wp2_with fail
  refine (cur_skip _ _ _ _ (HC.out.kept ((Below.refl _ _).alloc (Nat.le_refl _) _))).mono ?_
  rintro e w1 ⟨rfl, ht1⟩
  have HT1 := Lib.hid (show But b w w1 ∧ CurAt b s (n + semiAt (fromB s n)) w1 from ⟨(But.of ((Below.refl _ _).alloc (Nat.le_refl _) _)).trans ht1.1, ht1.2⟩)
  have HR1 := Lib.hid ((Bl.new w 49 #[.string ⟨#[]⟩, .string ⟨#[]⟩]).but ht1.1 (by omega))
  clear ht1
  go_wp2_with fail
  refine (cur_byte_yes _ _ _ _ _ HT1.out.2 (HS.out.1 HH.out).1 (HS.out.1 HH.out).2).mono ?_
  rintro e w2 ⟨rfl, ht2⟩
  have HT2 := Lib.hid (show But b w w2 ∧ CurAt b s (n + semiAt (fromB s n) + 1) w2 from ⟨HT1.out.1.trans ht2.1, ht2.2⟩)
  have HR2 := Lib.hid (HR1.out.but ht2.1 (by omega))
  clear ht2
  go_wp2_with fail
  refine (cur_skip _ _ _ _ HT2.out.2).mono ?_
  rintro e w3 ⟨rfl, ht3⟩
  rw [F.out.e2] at ht3
  have HT3 := Lib.hid (show But b w w3 ∧ CurAt b s (n + nameAt (fromB s n)) w3 from ⟨HT2.out.1.trans ht3.1, ht3.2⟩)
  have HR3 := Lib.hid (HR2.out.but ht3.1 (by omega))
  clear ht3
  go_wp2_with fail
  refine (cur_token _ _ _ _ HT3.out.2).mono ?_
  rintro e w4 ⟨rfl, ht4⟩
  rw [F.out.e3] at ht4 ⊢
  have HT4 := Lib.hid (show But b w w4 ∧ CurAt b s (n + nameEnd (fromB s n)) w4 from ⟨HT3.out.1.trans ht4.1, by rw [← F.out.e4]; exact ht4.2⟩)
  have HR4 := Lib.hid (HR3.out.but ht4.1 (by omega))
  clear ht4
  go_wp2_with fail
  refine (oct_lower_any _ _ (by rw [upB_size]; have := fromB_size (fromB s n) (nameAt (fromB s n)); have := fromB_size s n; omega)).mono ?_
  rintro e w5 ⟨rfl, hb5⟩
  have HT5 := Lib.hid (show But b w w5 ∧ CurAt b s (n + nameEnd (fromB s n)) w5 from ⟨HT4.out.1.trans (But.of hb5), HT4.out.2.kept hb5⟩)
  have HR5 := Lib.hid (HR4.out.below hb5)
  clear hb5
  have hw5 : w.heap.size < w5.heap.size := HR5.out.lt
  have hR0 := HR5.out.free 0
  have hR1 := HR5.out.free 1
  have hRc0 := HR5.out.cell 0
  have hRc1 := HR5.out.cell 1
  go_wp2_with fail
  refine bodyPost_ret (v := .tuple #[.agg #[.string (lowB (upB (fromB (fromB s n) (nameAt (fromB s n))) (preN tcharB (fromB (fromB s n) (nameAt (fromB s n)))))), .string ⟨#[]⟩], .bool false]) (by simp [results, Try.results67, go_sem, hRc0, hRc1, hw5]) rfl ⟨_, ⟨#[]⟩, n + nameEnd (fromB s n), by rw [HPO.out], ⟨?_, ?_⟩, fun hx => by rw [HPO.out] at hx; cases hx⟩
  · exact ((HT5.out.1.store (Nat.le_refl _) _ _).store (Nat.le_refl _) _ _).alloc _
  · exact ((HT5.out.2.far (by omega) _ _).far (by omega) _ _).alloc _
set_option maxRecDepth 100000 in
set_option maxHeartbeats 4000000 in
theorem one_c (b n : Nat) (s : ByteArray) (w : World) (h : CurAt b s n w) (hs : s.size ≤ 140737488351232) (h1 : hasSemi (fromB s n) = true) (h2 : 0 < nameLen (fromB s n)) (h3 : hasEq (fromB s n) = false) :
    Calls Try.prog 67 #[.pointer (some ⟨b, 0, none⟩)] w (OnePost b n s w) := by
  have HC := Lib.hid h
  have F := Lib.hid (oneFacts n s)
  have hbw := h.lt
  have hle := h.le
  have HS := Lib.hid (semi_iff hle)
  have HH := Lib.hid h1
  have htl : (lowB (upB (fromB (fromB s n) (nameAt (fromB s n))) (preN tcharB (fromB (fromB s n) (nameAt (fromB s n)))))).toList.isEmpty = false := tl_ne_size (by rw [lowB_sz, upB_size, fromB_size, fromB_size]; have := preN_le tcharB (fromB (fromB s n) (nameAt (fromB s n))); rw [fromB_size, fromB_size] at this; have h9 : preN tcharB (fromB (fromB s n) (nameAt (fromB s n))) = nameLen (fromB s n) := rfl; omega)
  have HPO := Lib.hid (parOk_c h1 h2 h3)
  have HE := Lib.hid ((eq_iff (nameAt_le h1).2.2.1).2 h3)
  clear h h1 h2 h3
  go_enter Try.func67, Try.ntmps67
  go_wp2_with fail
  refine (cur_skip _ _ _ _ (HC.out.kept ((Below.refl _ _).alloc (Nat.le_refl _) _))).mono ?_
  rintro e w1 ⟨rfl, ht1⟩
  have HT1 := Lib.hid (show But b w w1 ∧ CurAt b s (n + semiAt (fromB s n)) w1 from ⟨(But.of ((Below.refl _ _).alloc (Nat.le_refl _) _)).trans ht1.1, ht1.2⟩)
  have HR1 := Lib.hid ((Bl.new w 49 #[.string ⟨#[]⟩, .string ⟨#[]⟩]).but ht1.1 (by omega))
  clear ht1
  go_wp2_with fail
  refine (cur_byte_yes _ _ _ _ _ HT1.out.2 (HS.out.1 HH.out).1 (HS.out.1 HH.out).2).mono ?_
  rintro e w2 ⟨rfl, ht2⟩
  have HT2 := Lib.hid (show But b w w2 ∧ CurAt b s (n + semiAt (fromB s n) + 1) w2 from ⟨HT1.out.1.trans ht2.1, ht2.2⟩)
  have HR2 := Lib.hid (HR1.out.but ht2.1 (by omega))
  clear ht2
  go_wp2_with fail
  refine (cur_skip _ _ _ _ HT2.out.2).mono ?_
  rintro e w3 ⟨rfl, ht3⟩
  rw [F.out.e2] at ht3
  have HT3 := Lib.hid (show But b w w3 ∧ CurAt b s (n + nameAt (fromB s n)) w3 from ⟨HT2.out.1.trans ht3.1, ht3.2⟩)
  have HR3 := Lib.hid (HR2.out.but ht3.1 (by omega))
  clear ht3
  go_wp2_with fail
  refine (cur_token _ _ _ _ HT3.out.2).mono ?_
  rintro e w4 ⟨rfl, ht4⟩
  rw [F.out.e3] at ht4 ⊢
  have HT4 := Lib.hid (show But b w w4 ∧ CurAt b s (n + nameEnd (fromB s n)) w4 from ⟨HT3.out.1.trans ht4.1, by rw [← F.out.e4]; exact ht4.2⟩)
  have HR4 := Lib.hid (HR3.out.but ht4.1 (by omega))
  clear ht4
  go_wp2_with fail
  refine (oct_lower_any _ _ (by rw [upB_size]; have := fromB_size (fromB s n) (nameAt (fromB s n)); have := fromB_size s n; omega)).mono ?_
  rintro e w5 ⟨rfl, hb5⟩
  have HT5 := Lib.hid (show But b w w5 ∧ CurAt b s (n + nameEnd (fromB s n)) w5 from ⟨HT4.out.1.trans (But.of hb5), HT4.out.2.kept hb5⟩)
  have HR5 := Lib.hid (HR4.out.below hb5)
  clear hb5
  have hw5 : w.heap.size < w5.heap.size := HR5.out.lt
  go_wp2_with fail
  refine (cur_left _ _ _ _ (HT5.out.2.alloc _)).mono ?_
  rintro e w6 ⟨rfl, hb6⟩
  rw [F.out.e5]
  have HT6 := Lib.hid (show But b w w6 ∧ CurAt b s (n + nameEnd (fromB s n)) w6 from ⟨(HT5.out.1.alloc _).trans (But.of hb6), (HT5.out.2.alloc _).kept hb6⟩)
  have HR6 := Lib.hid ((HR5.out.alloc _).below hb6)
  have HP6 := Lib.hid ((Bl.new w5 49 #[.string (lowB (upB (fromB (fromB s n) (nameAt (fromB s n))) (preN tcharB (fromB (fromB s n) (nameAt (fromB s n)))))), .string ⟨#[]⟩]).below hb6)
  have hw6 : w5.heap.size < w6.heap.size := HP6.out.lt
  clear hb6
  go_wp2_with fail
  refine (cur_new _ _ (by rw [fromB_size, fromB_size]; omega)).mono ?_
  rintro e w7 ⟨rfl, hb7, hc7⟩
  have HT7 := Lib.hid (show But b w w7 ∧ CurAt b s (n + nameEnd (fromB s n)) w7 from ⟨HT6.out.1.trans (But.of hb7), HT6.out.2.kept hb7⟩)
  have HR7 := Lib.hid (HR6.out.below hb7)
  have HP7 := Lib.hid (HP6.out.below hb7)
  have HA7 := Lib.hid hc7
  clear hb7 hc7
  go_wp2_with fail
  refine (cur_skip _ _ _ _ HA7.out).mono ?_
  rintro e w8 ⟨rfl, ht8⟩
  rw [fromB_zero, Nat.zero_add] at ht8
  have HT8 := Lib.hid (show But b w w8 ∧ CurAt b s (n + nameEnd (fromB s n)) w8 from ⟨HT7.out.1.new (by omega) ht8.1, HT7.out.2.but ht8.1 (by omega)⟩)
  have HR8 := Lib.hid (HR7.out.but ht8.1 (by omega))
  have HP8 := Lib.hid (HP7.out.but ht8.1 (by omega))
  have HA8 := Lib.hid ht8.2
  clear ht8
  go_wp2_with fail
  refine (cur_byte_no _ _ _ _ _ HA8.out HE.out).mono ?_
  rintro e w9 ⟨rfl, hb9⟩
  have HT9 := Lib.hid (show But b w w9 ∧ CurAt b s (n + nameEnd (fromB s n)) w9 from ⟨HT8.out.1.trans (But.of hb9), HT8.out.2.kept hb9⟩)
  have HR9 := Lib.hid (HR8.out.below hb9)
  have HP9 := Lib.hid (HP8.out.below hb9)
  clear hb9
  have hR0 := HR9.out.free 0
  have hR1 := HR9.out.free 1
  have hRc0 := HR9.out.cell 0
  have hRc1 := HR9.out.cell 1
  have hRl := HR9.out.lt
  have hP0 := HP9.out.free 0
  have hP1 := HP9.out.free 1
  have hPl := HP9.out.lt
  have hPc0 : w9.cell? ⟨w5.heap.size, 0, none⟩ = some (.string (lowB (upB (fromB (fromB s n) (nameAt (fromB s n))) (preN tcharB (fromB (fromB s n) (nameAt (fromB s n))))))) := HP9.out.cell 0
  have hPc1 : w9.cell? ⟨w5.heap.size, 1, none⟩ = some (.string ⟨#[]⟩) := HP9.out.cell 1
  go_wp2_with fail
  refine bodyPost_ret (v := .tuple #[.agg #[.string (lowB (upB (fromB (fromB s n) (nameAt (fromB s n))) (preN tcharB (fromB (fromB s n) (nameAt (fromB s n)))))), .string ⟨#[]⟩], .bool true]) (by simp [results, Try.results67, go_sem, hRc0, hRc1, hRl]) rfl ⟨_, ⟨#[]⟩, n + nameEnd (fromB s n), by rw [HPO.out.1]; rfl, ⟨?_, ?_⟩, fun _ => ⟨rfl, HPO.out.2.1.symm, by rw [HPO.out.2.2]⟩⟩
  · exact (HT9.out.1.store (Nat.le_refl _) _ _).store (Nat.le_refl _) _ _
  · exact (HT9.out.2.far (by omega) _ _).far (by omega) _ _
set_option maxRecDepth 100000 in
set_option maxHeartbeats 4000000 in
theorem one_d (b n : Nat) (s : ByteArray) (w : World) (h : CurAt b s n w) (hs : s.size ≤ 140737488351232) (h1 : hasSemi (fromB s n) = true) (h2 : 0 < nameLen (fromB s n)) (h3 : hasEq (fromB s n) = true) (h4 : 0 < valLen (fromB s n)) :
    Calls Try.prog 67 #[.pointer (some ⟨b, 0, none⟩)] w (OnePost b n s w) := by
  have HC := Lib.hid h
  have F := Lib.hid (oneFacts n s)
  have hbw := h.lt
  have hle := h.le
  have HS := Lib.hid (semi_iff hle)
  have HH := Lib.hid h1
  have htl : (lowB (upB (fromB (fromB s n) (nameAt (fromB s n))) (preN tcharB (fromB (fromB s n) (nameAt (fromB s n)))))).toList.isEmpty = false := tl_ne_size (by rw [lowB_sz, upB_size, fromB_size, fromB_size]; have := preN_le tcharB (fromB (fromB s n) (nameAt (fromB s n))); rw [fromB_size, fromB_size] at this; have h9 : preN tcharB (fromB (fromB s n) (nameAt (fromB s n))) = nameLen (fromB s n) := rfl; omega)
  have HPO := Lib.hid (parOk_d h1 h2 h3 h4)
  have htl2 : (upB (fromB (fromB s n) (valAt (fromB s n))) (preN tcharB (fromB (fromB s n) (valAt (fromB s n))))).toList.isEmpty = false := tl_ne_size (by rw [upB_size, fromB_size, fromB_size]; have := preN_le tcharB (fromB (fromB s n) (valAt (fromB s n))); rw [fromB_size, fromB_size] at this; have h9 : preN tcharB (fromB (fromB s n) (valAt (fromB s n))) = valLen (fromB s n) := rfl; omega)
  have HE := Lib.hid ((eq_iff (nameAt_le h1).2.2.1).1 h3)
  have HF := Lib.hid (eqb_iff hle h3)
  clear h h1 h2 h3 h4
  go_enter Try.func67, Try.ntmps67
  go_wp2_with fail
  refine (cur_skip _ _ _ _ (HC.out.kept ((Below.refl _ _).alloc (Nat.le_refl _) _))).mono ?_
  rintro e w1 ⟨rfl, ht1⟩
  have HT1 := Lib.hid (show But b w w1 ∧ CurAt b s (n + semiAt (fromB s n)) w1 from ⟨(But.of ((Below.refl _ _).alloc (Nat.le_refl _) _)).trans ht1.1, ht1.2⟩)
  have HR1 := Lib.hid ((Bl.new w 49 #[.string ⟨#[]⟩, .string ⟨#[]⟩]).but ht1.1 (by omega))
  clear ht1
  go_wp2_with fail
  refine (cur_byte_yes _ _ _ _ _ HT1.out.2 (HS.out.1 HH.out).1 (HS.out.1 HH.out).2).mono ?_
  rintro e w2 ⟨rfl, ht2⟩
  have HT2 := Lib.hid (show But b w w2 ∧ CurAt b s (n + semiAt (fromB s n) + 1) w2 from ⟨HT1.out.1.trans ht2.1, ht2.2⟩)
  have HR2 := Lib.hid (HR1.out.but ht2.1 (by omega))
  clear ht2
  go_wp2_with fail
  refine (cur_skip _ _ _ _ HT2.out.2).mono ?_
  rintro e w3 ⟨rfl, ht3⟩
  rw [F.out.e2] at ht3
  have HT3 := Lib.hid (show But b w w3 ∧ CurAt b s (n + nameAt (fromB s n)) w3 from ⟨HT2.out.1.trans ht3.1, ht3.2⟩)
  have HR3 := Lib.hid (HR2.out.but ht3.1 (by omega))
  clear ht3
  go_wp2_with fail
  refine (cur_token _ _ _ _ HT3.out.2).mono ?_
  rintro e w4 ⟨rfl, ht4⟩
  rw [F.out.e3] at ht4 ⊢
  have HT4 := Lib.hid (show But b w w4 ∧ CurAt b s (n + nameEnd (fromB s n)) w4 from ⟨HT3.out.1.trans ht4.1, by rw [← F.out.e4]; exact ht4.2⟩)
  have HR4 := Lib.hid (HR3.out.but ht4.1 (by omega))
  clear ht4
  go_wp2_with fail
  refine (oct_lower_any _ _ (by rw [upB_size]; have := fromB_size (fromB s n) (nameAt (fromB s n)); have := fromB_size s n; omega)).mono ?_
  rintro e w5 ⟨rfl, hb5⟩
  have HT5 := Lib.hid (show But b w w5 ∧ CurAt b s (n + nameEnd (fromB s n)) w5 from ⟨HT4.out.1.trans (But.of hb5), HT4.out.2.kept hb5⟩)
  have HR5 := Lib.hid (HR4.out.below hb5)
  clear hb5
  have hw5 : w.heap.size < w5.heap.size := HR5.out.lt
  go_wp2_with fail
  refine (cur_left _ _ _ _ (HT5.out.2.alloc _)).mono ?_
  rintro e w6 ⟨rfl, hb6⟩
  rw [F.out.e5]
  have HT6 := Lib.hid (show But b w w6 ∧ CurAt b s (n + nameEnd (fromB s n)) w6 from ⟨(HT5.out.1.alloc _).trans (But.of hb6), (HT5.out.2.alloc _).kept hb6⟩)
  have HR6 := Lib.hid ((HR5.out.alloc _).below hb6)
  have HP6 := Lib.hid ((Bl.new w5 49 #[.string (lowB (upB (fromB (fromB s n) (nameAt (fromB s n))) (preN tcharB (fromB (fromB s n) (nameAt (fromB s n)))))), .string ⟨#[]⟩]).below hb6)
  have hw6 : w5.heap.size < w6.heap.size := HP6.out.lt
  clear hb6
  go_wp2_with fail
  refine (cur_new _ _ (by rw [fromB_size, fromB_size]; omega)).mono ?_
  rintro e w7 ⟨rfl, hb7, hc7⟩
  have HT7 := Lib.hid (show But b w w7 ∧ CurAt b s (n + nameEnd (fromB s n)) w7 from ⟨HT6.out.1.trans (But.of hb7), HT6.out.2.kept hb7⟩)
  have HR7 := Lib.hid (HR6.out.below hb7)
  have HP7 := Lib.hid (HP6.out.below hb7)
  have HA7 := Lib.hid hc7
  clear hb7 hc7
  go_wp2_with fail
  refine (cur_skip _ _ _ _ HA7.out).mono ?_
  rintro e w8 ⟨rfl, ht8⟩
  rw [fromB_zero, Nat.zero_add] at ht8
  have HT8 := Lib.hid (show But b w w8 ∧ CurAt b s (n + nameEnd (fromB s n)) w8 from ⟨HT7.out.1.new (by omega) ht8.1, HT7.out.2.but ht8.1 (by omega)⟩)
  have HR8 := Lib.hid (HR7.out.but ht8.1 (by omega))
  have HP8 := Lib.hid (HP7.out.but ht8.1 (by omega))
  have HA8 := Lib.hid ht8.2
  clear ht8
  go_wp2_with fail
  refine (cur_byte_yes _ _ _ _ _ HA8.out HE.out.1 HE.out.2).mono ?_
  rintro e w9 ⟨rfl, ht9⟩
  have HT9 := Lib.hid (show But b w w9 ∧ CurAt b s (n + nameEnd (fromB s n)) w9 from ⟨HT8.out.1.new (by omega) ht9.1, HT8.out.2.but ht9.1 (by omega)⟩)
  have HR9 := Lib.hid (HR8.out.but ht9.1 (by omega))
  have HP9 := Lib.hid (HP8.out.but ht9.1 (by omega))
  clear ht9
  go_wp2_with fail
  refine (cur_skip _ _ _ _ HT9.out.2).mono ?_
  rintro e w10 ⟨rfl, ht10⟩
  rw [F.out.e5, F.out.e6] at ht10
  have HT10 := Lib.hid (show But b w w10 ∧ CurAt b s (n + eqAt (fromB s n)) w10 from ⟨HT9.out.1.trans ht10.1, ht10.2⟩)
  have HR10 := Lib.hid (HR9.out.but ht10.1 (by omega))
  have HP10 := Lib.hid (HP9.out.but ht10.1 (by omega))
  clear ht10
  go_wp2_with fail
  refine (cur_byte_yes _ _ _ _ _ HT10.out.2 HF.out.1 HF.out.2).mono ?_
  rintro e w11 ⟨rfl, ht11⟩
  have HT11 := Lib.hid (show But b w w11 ∧ CurAt b s (n + eqAt (fromB s n) + 1) w11 from ⟨HT10.out.1.trans ht11.1, ht11.2⟩)
  have HR11 := Lib.hid (HR10.out.but ht11.1 (by omega))
  have HP11 := Lib.hid (HP10.out.but ht11.1 (by omega))
  clear ht11
  go_wp2_with fail
  refine (cur_skip _ _ _ _ HT11.out.2).mono ?_
  rintro e w12 ⟨rfl, ht12⟩
  rw [F.out.e7] at ht12
  have HT12 := Lib.hid (show But b w w12 ∧ CurAt b s (n + valAt (fromB s n)) w12 from ⟨HT11.out.1.trans ht12.1, ht12.2⟩)
  have HR12 := Lib.hid (HR11.out.but ht12.1 (by omega))
  have HP12 := Lib.hid (HP11.out.but ht12.1 (by omega))
  clear ht12
  go_wp2_with fail
  refine (cur_token _ _ _ _ HT12.out.2).mono ?_
  rintro e w13 ⟨rfl, ht13⟩
  rw [F.out.e8] at ht13 ⊢
  have HT13 := Lib.hid (show But b w w13 ∧ CurAt b s (n + (valAt (fromB s n) + valLen (fromB s n))) w13 from ⟨HT12.out.1.trans ht13.1, by rw [← F.out.e9]; exact ht13.2⟩)
  have HR13 := Lib.hid (HR12.out.but ht13.1 (by omega))
  have HP13 := Lib.hid (HP12.out.but ht13.1 (by omega))
  clear ht13
  have hR0 := HR13.out.free 0
  have hR1 := HR13.out.free 1
  have hRc0 := HR13.out.cell 0
  have hRc1 := HR13.out.cell 1
  have hRl := HR13.out.lt
  have hP0 := HP13.out.free 0
  have hP1 := HP13.out.free 1
  have hPl := HP13.out.lt
  have hPc0 : w13.cell? ⟨w5.heap.size, 0, none⟩ = some (.string (lowB (upB (fromB (fromB s n) (nameAt (fromB s n))) (preN tcharB (fromB (fromB s n) (nameAt (fromB s n))))))) := HP13.out.cell 0
  have hPc1 : w13.cell? ⟨w5.heap.size, 1, none⟩ = some (.string ⟨#[]⟩) := HP13.out.cell 1
  go_wp2_with fail
  refine bodyPost_ret (v := .tuple #[.agg #[.string (lowB (upB (fromB (fromB s n) (nameAt (fromB s n))) (preN tcharB (fromB (fromB s n) (nameAt (fromB s n)))))), .string (upB (fromB (fromB s n) (valAt (fromB s n))) (preN tcharB (fromB (fromB s n) (valAt (fromB s n)))))], .bool true]) (by simp [results, Try.results67, go_sem, hRc0, hRc1, hRl, hw5, Nat.ne_of_gt hw5, Nat.ne_of_lt hw5]) rfl ⟨_, _, n + (valAt (fromB s n) + valLen (fromB s n)), by rw [HPO.out.1]; rfl, ⟨?_, ?_⟩, fun _ => ⟨rfl, HPO.out.2.1.symm, by rw [HPO.out.2.2]⟩⟩
  · exact ((HT13.out.1.store (by omega) _ _).store (Nat.le_refl _) _ _).store (Nat.le_refl _) _ _
  · exact ((HT13.out.2.far (by omega) _ _).far (by omega) _ _).far (by omega) _ _
set_option maxRecDepth 100000 in
set_option maxHeartbeats 4000000 in
theorem one_e (b n : Nat) (s : ByteArray) (w : World) (h : CurAt b s n w) (hs : s.size ≤ 140737488351232) (h1 : hasSemi (fromB s n) = true) (h2 : 0 < nameLen (fromB s n)) (h3 : hasEq (fromB s n) = true) (h4 : valLen (fromB s n) = 0) :
    Calls Try.prog 67 #[.pointer (some ⟨b, 0, none⟩)] w (OnePost b n s w) := by
  have HC := Lib.hid h
  have F := Lib.hid (oneFacts n s)
  have hbw := h.lt
  have hle := h.le
  have HS := Lib.hid (semi_iff hle)
  have HH := Lib.hid h1
  have htl : (lowB (upB (fromB (fromB s n) (nameAt (fromB s n))) (preN tcharB (fromB (fromB s n) (nameAt (fromB s n)))))).toList.isEmpty = false := tl_ne_size (by rw [lowB_sz, upB_size, fromB_size, fromB_size]; have := preN_le tcharB (fromB (fromB s n) (nameAt (fromB s n))); rw [fromB_size, fromB_size] at this; have h9 : preN tcharB (fromB (fromB s n) (nameAt (fromB s n))) = nameLen (fromB s n) := rfl; omega)
  have HPO := Lib.hid (parOk_e h1 h2 h3 h4)
  have HV4 := Lib.hid h4
  have htl2 : (upB (fromB (fromB s n) (valAt (fromB s n))) (preN tcharB (fromB (fromB s n) (valAt (fromB s n))))).toList = [] := tl_of_size (by rw [upB_size, fromB_size, fromB_size]; have := preN_le tcharB (fromB (fromB s n) (valAt (fromB s n))); rw [fromB_size, fromB_size] at this; have h9 : preN tcharB (fromB (fromB s n) (valAt (fromB s n))) = valLen (fromB s n) := rfl; omega)
  have HE := Lib.hid ((eq_iff (nameAt_le h1).2.2.1).1 h3)
  have HF := Lib.hid (eqb_iff hle h3)
  clear h h1 h2 h3 h4
  go_enter Try.func67, Try.ntmps67
  go_wp2_with fail
  refine (cur_skip _ _ _ _ (HC.out.kept ((Below.refl _ _).alloc (Nat.le_refl _) _))).mono ?_
  rintro e w1 ⟨rfl, ht1⟩
  have HT1 := Lib.hid (show But b w w1 ∧ CurAt b s (n + semiAt (fromB s n)) w1 from ⟨(But.of ((Below.refl _ _).alloc (Nat.le_refl _) _)).trans ht1.1, ht1.2⟩)
  have HR1 := Lib.hid ((Bl.new w 49 #[.string ⟨#[]⟩, .string ⟨#[]⟩]).but ht1.1 (by omega))
  clear ht1
  go_wp2_with fail
  refine (cur_byte_yes _ _ _ _ _ HT1.out.2 (HS.out.1 HH.out).1 (HS.out.1 HH.out).2).mono ?_
  rintro e w2 ⟨rfl, ht2⟩
  have HT2 := Lib.hid (show But b w w2 ∧ CurAt b s (n + semiAt (fromB s n) + 1) w2 from ⟨HT1.out.1.trans ht2.1, ht2.2⟩)
  have HR2 := Lib.hid (HR1.out.but ht2.1 (by omega))
  clear ht2
  go_wp2_with fail
  refine (cur_skip _ _ _ _ HT2.out.2).mono ?_
  rintro e w3 ⟨rfl, ht3⟩
  rw [F.out.e2] at ht3
  have HT3 := Lib.hid (show But b w w3 ∧ CurAt b s (n + nameAt (fromB s n)) w3 from ⟨HT2.out.1.trans ht3.1, ht3.2⟩)
  have HR3 := Lib.hid (HR2.out.but ht3.1 (by omega))
  clear ht3
  go_wp2_with fail
  refine (cur_token _ _ _ _ HT3.out.2).mono ?_
  rintro e w4 ⟨rfl, ht4⟩
  rw [F.out.e3] at ht4 ⊢
  have HT4 := Lib.hid (show But b w w4 ∧ CurAt b s (n + nameEnd (fromB s n)) w4 from ⟨HT3.out.1.trans ht4.1, by rw [← F.out.e4]; exact ht4.2⟩)
  have HR4 := Lib.hid (HR3.out.but ht4.1 (by omega))
  clear ht4
  go_wp2_with fail
  refine (oct_lower_any _ _ (by rw [upB_size]; have := fromB_size (fromB s n) (nameAt (fromB s n)); have := fromB_size s n; omega)).mono ?_
  rintro e w5 ⟨rfl, hb5⟩
  have HT5 := Lib.hid (show But b w w5 ∧ CurAt b s (n + nameEnd (fromB s n)) w5 from ⟨HT4.out.1.trans (But.of hb5), HT4.out.2.kept hb5⟩)
  have HR5 := Lib.hid (HR4.out.below hb5)
  clear hb5
  have hw5 : w.heap.size < w5.heap.size := HR5.out.lt
  go_wp2_with fail
  refine (cur_left _ _ _ _ (HT5.out.2.alloc _)).mono ?_
  rintro e w6 ⟨rfl, hb6⟩
  rw [F.out.e5]
  have HT6 := Lib.hid (show But b w w6 ∧ CurAt b s (n + nameEnd (fromB s n)) w6 from ⟨(HT5.out.1.alloc _).trans (But.of hb6), (HT5.out.2.alloc _).kept hb6⟩)
  have HR6 := Lib.hid ((HR5.out.alloc _).below hb6)
  have HP6 := Lib.hid ((Bl.new w5 49 #[.string (lowB (upB (fromB (fromB s n) (nameAt (fromB s n))) (preN tcharB (fromB (fromB s n) (nameAt (fromB s n)))))), .string ⟨#[]⟩]).below hb6)
  have hw6 : w5.heap.size < w6.heap.size := HP6.out.lt
  clear hb6
  go_wp2_with fail
  refine (cur_new _ _ (by rw [fromB_size, fromB_size]; omega)).mono ?_
  rintro e w7 ⟨rfl, hb7, hc7⟩
  have HT7 := Lib.hid (show But b w w7 ∧ CurAt b s (n + nameEnd (fromB s n)) w7 from ⟨HT6.out.1.trans (But.of hb7), HT6.out.2.kept hb7⟩)
  have HR7 := Lib.hid (HR6.out.below hb7)
  have HP7 := Lib.hid (HP6.out.below hb7)
  have HA7 := Lib.hid hc7
  clear hb7 hc7
  go_wp2_with fail
  refine (cur_skip _ _ _ _ HA7.out).mono ?_
  rintro e w8 ⟨rfl, ht8⟩
  rw [fromB_zero, Nat.zero_add] at ht8
  have HT8 := Lib.hid (show But b w w8 ∧ CurAt b s (n + nameEnd (fromB s n)) w8 from ⟨HT7.out.1.new (by omega) ht8.1, HT7.out.2.but ht8.1 (by omega)⟩)
  have HR8 := Lib.hid (HR7.out.but ht8.1 (by omega))
  have HP8 := Lib.hid (HP7.out.but ht8.1 (by omega))
  have HA8 := Lib.hid ht8.2
  clear ht8
  go_wp2_with fail
  refine (cur_byte_yes _ _ _ _ _ HA8.out HE.out.1 HE.out.2).mono ?_
  rintro e w9 ⟨rfl, ht9⟩
  have HT9 := Lib.hid (show But b w w9 ∧ CurAt b s (n + nameEnd (fromB s n)) w9 from ⟨HT8.out.1.new (by omega) ht9.1, HT8.out.2.but ht9.1 (by omega)⟩)
  have HR9 := Lib.hid (HR8.out.but ht9.1 (by omega))
  have HP9 := Lib.hid (HP8.out.but ht9.1 (by omega))
  clear ht9
  go_wp2_with fail
  refine (cur_skip _ _ _ _ HT9.out.2).mono ?_
  rintro e w10 ⟨rfl, ht10⟩
  rw [F.out.e5, F.out.e6] at ht10
  have HT10 := Lib.hid (show But b w w10 ∧ CurAt b s (n + eqAt (fromB s n)) w10 from ⟨HT9.out.1.trans ht10.1, ht10.2⟩)
  have HR10 := Lib.hid (HR9.out.but ht10.1 (by omega))
  have HP10 := Lib.hid (HP9.out.but ht10.1 (by omega))
  clear ht10
  go_wp2_with fail
  refine (cur_byte_yes _ _ _ _ _ HT10.out.2 HF.out.1 HF.out.2).mono ?_
  rintro e w11 ⟨rfl, ht11⟩
  have HT11 := Lib.hid (show But b w w11 ∧ CurAt b s (n + eqAt (fromB s n) + 1) w11 from ⟨HT10.out.1.trans ht11.1, ht11.2⟩)
  have HR11 := Lib.hid (HR10.out.but ht11.1 (by omega))
  have HP11 := Lib.hid (HP10.out.but ht11.1 (by omega))
  clear ht11
  go_wp2_with fail
  refine (cur_skip _ _ _ _ HT11.out.2).mono ?_
  rintro e w12 ⟨rfl, ht12⟩
  rw [F.out.e7] at ht12
  have HT12 := Lib.hid (show But b w w12 ∧ CurAt b s (n + valAt (fromB s n)) w12 from ⟨HT11.out.1.trans ht12.1, ht12.2⟩)
  have HR12 := Lib.hid (HR11.out.but ht12.1 (by omega))
  have HP12 := Lib.hid (HP11.out.but ht12.1 (by omega))
  clear ht12
  go_wp2_with fail
  refine (cur_token _ _ _ _ HT12.out.2).mono ?_
  rintro e w13 ⟨rfl, ht13⟩
  rw [F.out.e8] at ht13 ⊢
  have HT13 := Lib.hid (show But b w w13 ∧ CurAt b s (n + (valAt (fromB s n) + valLen (fromB s n))) w13 from ⟨HT12.out.1.trans ht13.1, by rw [← F.out.e9]; exact ht13.2⟩)
  have HR13 := Lib.hid (HR12.out.but ht13.1 (by omega))
  have HP13 := Lib.hid (HP12.out.but ht13.1 (by omega))
  clear ht13
  have hR0 := HR13.out.free 0
  have hR1 := HR13.out.free 1
  have hRc0 := HR13.out.cell 0
  have hRc1 := HR13.out.cell 1
  have hRl := HR13.out.lt
  have hP0 := HP13.out.free 0
  have hP1 := HP13.out.free 1
  have hPl := HP13.out.lt
  have hPc0 : w13.cell? ⟨w5.heap.size, 0, none⟩ = some (.string (lowB (upB (fromB (fromB s n) (nameAt (fromB s n))) (preN tcharB (fromB (fromB s n) (nameAt (fromB s n))))))) := HP13.out.cell 0
  have hPc1 : w13.cell? ⟨w5.heap.size, 1, none⟩ = some (.string ⟨#[]⟩) := HP13.out.cell 1
  go_wp2_with fail
  refine (cur_quoted b (n + valAt (fromB s n)) s _ (show CurAt b s (n + valAt (fromB s n)) _ from (by have := HT13.out.2; rw [HV4.out, Nat.add_zero] at this; exact this.far (by omega) _ _)) (by omega)).mono ?_
  rintro e w14 ⟨rfl, ht14⟩
  rw [F.out.e8] at ht14 ⊢
  have HT14 := Lib.hid (show But b w w14 ∧ CurAt b s (n + valAt (fromB s n) + quotedN (fromB (fromB s n) (valAt (fromB s n)))) w14 from ⟨(HT13.out.1.store (by omega) _ _).trans ht14.1, ht14.2⟩)
  have HR14 := Lib.hid ((HR13.out.far (by show w.heap.size ≠ w5.heap.size; omega) _).but ht14.1 (by omega))
  have HP14 := Lib.hid ((HP13.out.set 1 (.string (upB (fromB (fromB s n) (valAt (fromB s n))) (preN tcharB (fromB (fromB s n) (valAt (fromB s n))))))).but ht14.1 (by omega))
  clear ht14 hR0 hR1 hRc0 hRc1 hRl hP0 hP1 hPl hPc0 hPc1
  have hR0 := HR14.out.free 0
  have hR1 := HR14.out.free 1
  have hRc0 := HR14.out.cell 0
  have hRc1 := HR14.out.cell 1
  have hRl := HR14.out.lt
  have hP0 := HP14.out.free 0
  have hP1 := HP14.out.free 1
  have hPl := HP14.out.lt
  have hPc0 : w14.cell? ⟨w5.heap.size, 0, none⟩ = some (.string (lowB (upB (fromB (fromB s n) (nameAt (fromB s n))) (preN tcharB (fromB (fromB s n) (nameAt (fromB s n))))))) := HP14.out.cell 0
  have hPc1 : w14.cell? ⟨w5.heap.size, 1, none⟩ = some (.string (upB (fromB (fromB s n) (valAt (fromB s n))) (preN tcharB (fromB (fromB s n) (valAt (fromB s n)))))) := HP14.out.cell 1
  go_wp2_with fail
  refine bodyPost_ret (v := .tuple #[.agg #[.string (lowB (upB (fromB (fromB s n) (nameAt (fromB s n))) (preN tcharB (fromB (fromB s n) (nameAt (fromB s n)))))), .string (quotedS (fromB (fromB s n) (valAt (fromB s n))))], .bool (decide (0 < quotedN (fromB (fromB s n) (valAt (fromB s n)))))]) (by simp [results, Try.results67, go_sem, hRc0, hRc1, hRl, hw5, Nat.ne_of_gt hw5, Nat.ne_of_lt hw5]) rfl ⟨_, _, n + valAt (fromB s n) + quotedN (fromB (fromB s n) (valAt (fromB s n))), by rw [HPO.out.1]; rfl, ⟨?_, ?_⟩, fun _ => ⟨rfl, HPO.out.2.1.symm, by rw [HPO.out.2.2]; omega⟩⟩
  · exact ((HT14.out.1.store (by omega) _ _).store (Nat.le_refl _) _ _).store (Nat.le_refl _) _ _
  · exact ((HT14.out.2.far (by omega) _ _).far (by omega) _ _).far (by omega) _ _
theorem one_any (b n : Nat) (s : ByteArray) (w : World) (h : CurAt b s n w) (hs : s.size ≤ 140737488351232) :
    Calls Try.prog 67 #[.pointer (some ⟨b, 0, none⟩)] w (OnePost b n s w) := by
  cases h1 : hasSemi (fromB s n)
  · exact one_a b n s w h hs h1
  · by_cases h2 : nameLen (fromB s n) = 0
    · exact one_b b n s w h hs h1 h2
    · cases h3 : hasEq (fromB s n)
      · exact one_c b n s w h hs h1 (by omega) h3
      · by_cases h4 : valLen (fromB s n) = 0
        · exact one_e b n s w h hs h1 (by omega) h3 h4
        · exact one_d b n s w h hs h1 (by omega) h3 (by omega)
end Go.Proofs.Ytjocmjmfkgogiaa
