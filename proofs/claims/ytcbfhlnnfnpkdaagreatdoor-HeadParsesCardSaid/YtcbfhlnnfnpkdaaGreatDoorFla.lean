/- Layer 9: the field of a line, a field's line, on both sides. -/
import Derived.Test.YtcbfhlnnfnpkdaaGreatDoorCtc
import Derived.Test.YtcbfhlnnfnpkdaaGreatDoorKeeps
import Derived.Test.YtcbfhlnnfnpkdaaGreatDoorQs
namespace Go.Proofs.YtcbfhlnnfnpkdaaGreatDoor
open Go.RowKit
set_option linter.unusedVariables false
set_option linter.unusedSimpArgs false

def fldK (s : ByteArray) : Nat := upTo 58 s.data.toList
def fldE (s : ByteArray) : Int := if fldK s = s.size then 3 else if tokenB (s.extract 0 (fldK s)) = false then 6 else if allB valueB (s.extract (fldK s + 1) s.size) = false then 7 else 0
def fldN (s : ByteArray) : ByteArray := if fldE s = 0 then s.extract 0 (fldK s) else ⟨#[]⟩
def fldV (s : ByteArray) : ByteArray := if fldE s = 0 then trimB (s.extract (fldK s + 1) s.size) else ⟨#[]⟩
theorem fldK_le (s : ByteArray) : fldK s ≤ s.size := by have := upTo_le 58 s.data.toList; rw [← ba_size'] at this; exact this
theorem fld_cases (s : ByteArray) :
    (fldK s = s.size ∧ fldE s = 3 ∧ fldN s = ⟨#[]⟩ ∧ fldV s = ⟨#[]⟩) ∨
    (fldK s < s.size ∧ tokenB (s.extract 0 (fldK s)) = false ∧ fldE s = 6 ∧ fldN s = ⟨#[]⟩ ∧ fldV s = ⟨#[]⟩) ∨
    (fldK s < s.size ∧ tokenB (s.extract 0 (fldK s)) = true ∧ allB valueB (s.extract (fldK s + 1) s.size) = false ∧ fldE s = 7 ∧ fldN s = ⟨#[]⟩ ∧ fldV s = ⟨#[]⟩) ∨
    (fldK s < s.size ∧ tokenB (s.extract 0 (fldK s)) = true ∧ allB valueB (s.extract (fldK s + 1) s.size) = true ∧ fldE s = 0 ∧ fldN s = s.extract 0 (fldK s) ∧ fldV s = trimB (s.extract (fldK s + 1) s.size)) := by
  have hle := fldK_le s
  by_cases h1 : fldK s = s.size
  · have he : fldE s = 3 := by unfold fldE; rw [if_pos h1]
    exact .inl ⟨h1, he, by unfold fldN; rw [he, if_neg (by decide)], by unfold fldV; rw [he, if_neg (by decide)]⟩
  · have hlt : fldK s < s.size := by omega
    cases h2 : tokenB (s.extract 0 (fldK s))
    · have he : fldE s = 6 := by unfold fldE; rw [if_neg h1, if_pos h2]
      exact .inr (.inl ⟨hlt, rfl, he, by unfold fldN; rw [he, if_neg (by decide)], by unfold fldV; rw [he, if_neg (by decide)]⟩)
    · cases h3 : allB valueB (s.extract (fldK s + 1) s.size)
      · have he : fldE s = 7 := by unfold fldE; rw [if_neg h1, if_neg (by rw [h2]; decide), if_pos h3]
        exact .inr (.inr (.inl ⟨hlt, rfl, rfl, he, by unfold fldN; rw [he, if_neg (by decide)], by unfold fldV; rw [he, if_neg (by decide)]⟩))
      · have he : fldE s = 0 := by unfold fldE; rw [if_neg h1, if_neg (by rw [h2]; decide), if_neg (by rw [h3]; decide)]
        exact .inr (.inr (.inr ⟨hlt, rfl, rfl, he, by unfold fldN; rw [he, if_pos rfl], by unfold fldV; rw [he, if_pos rfl]⟩))
theorem ext_size (s : ByteArray) (a b : Nat) : (s.extract a b).size ≤ s.size := by
  rw [ba_size', ba_size', Lib.extract_data]; simp; omega
def FldRet (s : ByteArray) (w : World) (e : Ending) (w' : World) : Prop := e = .returned (.tuple #[.agg #[.string (fldN s), .string (fldV s)], .int .i64 (fldE s)]) ∧ Below w.heap.size w w'
/-- The result's block stands, and takes what is stored. -/
theorem res_blk {w w2 : World} {t : TypeId} {a b : Value} (hb : Below (w.heap.size + 1) (w.alloc (.cells #[a, b] t)) w2) : w2.heap[w.heap.size]? = some (.cells #[a, b] t (0, 0)) := (hb.block w.heap.size (by omega)).trans (heap_alloc_new w _)
theorem res_end {w w2 : World} {t : TypeId} {a b : Value} (hb : Below (w.heap.size + 1) (w.alloc (.cells #[a, b] t)) w2) (u v : Value) :
    ((w2.setCell ⟨w.heap.size, 0, none⟩ u).setCell ⟨w.heap.size, 1, none⟩ v).heap[w.heap.size]? = some (.cells #[u, v] t (0, 0)) ∧ Below w.heap.size w ((w2.setCell ⟨w.heap.size, 0, none⟩ u).setCell ⟨w.heap.size, 1, none⟩ v) :=
  ⟨(blk_set (blk_set (res_blk hb) _) _).trans rfl, ((((Below.refl _ _).alloc (Nat.le_refl _) _).trans (hb.mono (by omega))).setCell (Nat.le_refl _) _).setCell (Nat.le_refl _) _⟩

set_option maxRecDepth 100000 in
set_option maxHeartbeats 2000000 in
theorem fparse_any (s : ByteArray) (w : World) (hs : s.size ≤ 1000000) : Calls Tryz.prog 78 #[.string s] w (FldRet s w) := by
  have hx1 := ext_size s 0 (fldK s)
  have hx2 := ext_size s (fldK s + 1) s.size
  rcases fld_cases s with ⟨h1, he, hn, hv⟩ | ⟨h1, h2, he, hn, hv⟩ | ⟨h1, h2, h3, he, hn, hv⟩ | ⟨h1, h2, h3, he, hn, hv⟩
  all_goals
    have HE := Kp.mk he
    have HN := Kp.mk hn
    have HV := Kp.mk hv
    have H1 := Kp.mk h1
    have hbw : Below (w.heap.size + 1) (w.alloc (.cells #[.string ⟨#[]⟩, .string ⟨#[]⟩] 67)) (w.alloc (.cells #[.string ⟨#[]⟩, .string ⟨#[]⟩] 67)) := Below.refl _ _
    have HBW := Kp.mk hbw
    clear he hn hv hbw h1
  · go_enter Tryz.func78, Tryz.ntmps78
    go_wp2_with fail
    refine (cutC_no s _ (by omega) H1.out).mono ?_
    rintro e w1 ⟨rfl, n1, rfl⟩
    have HB := Kp.mk (HBW.out.trans ((gdrewN _ n1).mono (by simp)))
    have hk := res_blk HB.out
    have g0 := blk_cell (i := 0) hk rfl
    have g1 := blk_cell (i := 1) hk rfl
    have f0 := blk_free (i := 0) hk
    have f1 := blk_free (i := 1) hk
    clear hk
    go_wp2_with fail
    obtain ⟨hre, hrb⟩ := res_end HB.out (.string ⟨#[]⟩) (.string ⟨#[]⟩)
    have g2 := blk_cell (i := 0) hre rfl
    have g3 := blk_cell (i := 1) hre rfl
    exact bodyPost_ret (v := .tuple #[.agg #[.string ⟨#[]⟩, .string ⟨#[]⟩], .int .i64 3]) (by simp [results, Tryz.results78, go_sem, g2, g3]) rfl ⟨by rw [HE.out, HN.out, HV.out], hrb⟩
  · go_enter Tryz.func78, Tryz.ntmps78
    go_wp2_with fail
    refine (cutC_yes s (fldK s) _ (by omega) rfl H1.out).mono ?_
    rintro e w1 ⟨rfl, n1, rfl⟩
    have HB0 := Kp.mk (HBW.out.trans ((gdrewN (w.alloc (.cells #[.string ⟨#[]⟩, .string ⟨#[]⟩] 67)) n1).mono (by simp)))
    go_wp2_with fail
    refine (oct_token_any _ _ (by unfold maxLen; omega)).mono ?_
    rintro e w2 ⟨rfl, hb2⟩
    have HB1 := Kp.mk (HB0.out.trans (hb2.mono (by simp)))
    have hz1 := HB1.out.size
    simp only [World.size_alloc] at hz1
    clear hb2
    have hk := res_blk HB1.out
    have g0 := blk_cell (i := 0) hk rfl
    have g1 := blk_cell (i := 1) hk rfl
    have f0 := blk_free (i := 0) hk
    have f1 := blk_free (i := 1) hk
    clear hk
    go_wp2_with fail
    obtain ⟨hre, hrb⟩ := res_end HB1.out (.string (⟨#[]⟩)) (.string (⟨#[]⟩))
    have g2 := blk_cell (i := 0) hre rfl
    have g3 := blk_cell (i := 1) hre rfl
    exact bodyPost_ret (v := .tuple #[.agg #[.string (⟨#[]⟩), .string (⟨#[]⟩)], .int .i64 6]) (by simp [results, Tryz.results78, go_sem, g2, g3]) rfl ⟨by rw [HE.out, HN.out, HV.out], hrb⟩
  · go_enter Tryz.func78, Tryz.ntmps78
    go_wp2_with fail
    refine (cutC_yes s (fldK s) _ (by omega) rfl H1.out).mono ?_
    rintro e w1 ⟨rfl, n1, rfl⟩
    have HB0 := Kp.mk (HBW.out.trans ((gdrewN (w.alloc (.cells #[.string ⟨#[]⟩, .string ⟨#[]⟩] 67)) n1).mono (by simp)))
    go_wp2_with fail
    refine (oct_token_any _ _ (by unfold maxLen; omega)).mono ?_
    rintro e w2 ⟨rfl, hb2⟩
    have HB1 := Kp.mk (HB0.out.trans (hb2.mono (by simp)))
    have hz1 := HB1.out.size
    simp only [World.size_alloc] at hz1
    clear hb2
    go_wp2_with fail
    refine (oct_value_any _ _ (by unfold maxLen; omega)).mono ?_
    rintro e w3 ⟨rfl, hb3⟩
    have HB2 := Kp.mk (HB1.out.trans (hb3.mono hz1))
    have hz2 := HB2.out.size
    simp only [World.size_alloc] at hz2
    clear hb3
    have hk := res_blk HB2.out
    have g0 := blk_cell (i := 0) hk rfl
    have g1 := blk_cell (i := 1) hk rfl
    have f0 := blk_free (i := 0) hk
    have f1 := blk_free (i := 1) hk
    clear hk
    go_wp2_with fail
    obtain ⟨hre, hrb⟩ := res_end HB2.out (.string (⟨#[]⟩)) (.string (⟨#[]⟩))
    have g2 := blk_cell (i := 0) hre rfl
    have g3 := blk_cell (i := 1) hre rfl
    exact bodyPost_ret (v := .tuple #[.agg #[.string (⟨#[]⟩), .string (⟨#[]⟩)], .int .i64 7]) (by simp [results, Tryz.results78, go_sem, g2, g3]) rfl ⟨by rw [HE.out, HN.out, HV.out], hrb⟩
  · go_enter Tryz.func78, Tryz.ntmps78
    go_wp2_with fail
    refine (cutC_yes s (fldK s) _ (by omega) rfl H1.out).mono ?_
    rintro e w1 ⟨rfl, n1, rfl⟩
    have HB0 := Kp.mk (HBW.out.trans ((gdrewN (w.alloc (.cells #[.string ⟨#[]⟩, .string ⟨#[]⟩] 67)) n1).mono (by simp)))
    go_wp2_with fail
    refine (oct_token_any _ _ (by unfold maxLen; omega)).mono ?_
    rintro e w2 ⟨rfl, hb2⟩
    have HB1 := Kp.mk (HB0.out.trans (hb2.mono (by simp)))
    have hz1 := HB1.out.size
    simp only [World.size_alloc] at hz1
    clear hb2
    go_wp2_with fail
    refine (oct_value_any _ _ (by unfold maxLen; omega)).mono ?_
    rintro e w3 ⟨rfl, hb3⟩
    have HB2 := Kp.mk (HB1.out.trans (hb3.mono hz1))
    have hz2 := HB2.out.size
    simp only [World.size_alloc] at hz2
    clear hb3
    go_wp2_with fail
    refine (oct_trim_any _ _ (by unfold maxLen; omega)).mono ?_
    rintro e w4 ⟨rfl, hb4⟩
    have HB3 := Kp.mk (HB2.out.trans (hb4.mono hz2))
    clear hb4
    have hk := res_blk HB3.out
    have g0 := blk_cell (i := 0) hk rfl
    have g1 := blk_cell (i := 1) hk rfl
    have f0 := blk_free (i := 0) hk
    have f1 := blk_free (i := 1) hk
    clear hk
    go_wp2_with fail
    obtain ⟨hre, hrb⟩ := res_end HB3.out (.string (s.extract 0 (fldK s))) (.string (trimB (s.extract (fldK s + 1) s.size)))
    have g2 := blk_cell (i := 0) hre rfl
    have g3 := blk_cell (i := 1) hre rfl
    exact bodyPost_ret (v := .tuple #[.agg #[.string (s.extract 0 (fldK s)), .string (trimB (s.extract (fldK s + 1) s.size))], .int .i64 0]) (by simp [results, Tryz.results78, go_sem, g2, g3]) rfl ⟨by rw [HE.out, HN.out, HV.out], hrb⟩
theorem sz_al (w : World) (o : Obj) : (w.alloc o).heap.size = w.heap.size + 1 := World.size_alloc _ _
set_option maxRecDepth 100000 in
set_option maxHeartbeats 4000000 in
theorem rfparse_any (s : ByteArray) (w : World) (hs : s.size ≤ 1000000) : Calls Tryz.prog 84 #[.string s] w (FldRet s w) := by
  have hx1 := ext_size s 0 (fldK s)
  have hx2 := ext_size s (fldK s + 1) s.size
  have hbw : Below (w.heap.size + 1) (w.alloc (.cells #[.string ⟨#[]⟩, .string ⟨#[]⟩] 67)) (w.alloc (.cells #[.string ⟨#[]⟩, .string ⟨#[]⟩] 67)) := Below.refl _ _
  have HBW := Kp.mk hbw
  have hk := res_blk hbw
  have g0 := blk_cell (i := 0) hk rfl
  have g1 := blk_cell (i := 1) hk rfl
  have f0 := blk_free (i := 0) hk
  have f1 := blk_free (i := 1) hk
  clear hk hbw
  go_enter Tryz.func84, Tryz.ntmps84
  go_wp2_with fail
  go_loop [4] (fun i => ∃ k : Nat, k ≤ s.size ∧ i = .int .i64 k ∧ ∀ j, j < k → bt s j ≠ 58) (fun i => s.size - (intOf i).toNat)
  case atStart => exact ⟨0, by omega, rfl, fun j h => by omega⟩
  case round =>
    obtain ⟨k, hk, rfl, hb⟩ := hrel
    have HBF := Kp.mk hb
    clear hb
    by_cases hgo : k < s.size ∧ bt s k ≠ 58
    · obtain ⟨hlt, hne⟩ := hgo
      have t1 : ((s[k].toNat : Int) != 58) = true := by rw [bt_at s k hlt, bne_iff_ne]; omega
      have q1 : (k : Int) < (s.size : Int) := by omega
      go_wp2_with fail
      go_round
      case rel => exact ⟨k + 1, by omega, by go_num, fun j hj => by
        by_cases hjk : j < k
        · exact HBF.out j hjk
        · obtain rfl : j = k := by omega
          exact hne⟩
      case measure => simp [intOf]; omega
    · have hend : k = s.size ∨ (k < s.size ∧ bt s k = 58) := by omega
      have hkk : fldK s = k := upTo_of hk (fun j hj => by have := HBF.out j hj; simpa using this) (hend.imp id fun h => by simpa using h.2)
      rw [hkk] at hx1 hx2
      have hfc := fld_cases s
      rw [hkk] at hfc
      clear hgo HBF
      rcases hfc with ⟨h1, he, hn, hv⟩ | ⟨h1, h2, he, hn, hv⟩ | ⟨h1, h2, h3, he, hn, hv⟩ | ⟨h1, h2, h3, he, hn, hv⟩
      all_goals
        have HE := Kp.mk he
        have HN := Kp.mk hn
        have HV := Kp.mk hv
        clear he hn hv hkk
      · subst h1
        have t2 : ((s.size : Int) == (s.size : Int)) = true := by simp
        clear hend
        go_wp2_with fail
        exact bodyPost_ret (v := .tuple #[.agg #[.string (⟨#[]⟩), .string (⟨#[]⟩)], .int .i64 3]) (by simp [results, Tryz.results84, go_sem]) rfl ⟨by rw [HE.out, HN.out, HV.out], by first | exact (Below.refl _ _).alloc (Nat.le_refl _) _ | exact ((Below.refl _ _).alloc (Nat.le_refl _) _).trans ((gdrewN _ 1).mono (by simp))⟩
      · have hbk : bt s k = 58 := by omega
        have t1 : ((s[k].toNat : Int) != 58) = false := by rw [bt_at s k h1, hbk]; rfl
        have t2 : ((k : Int) == (s.size : Int)) = false := by rw [beq_eq_false_iff_ne]; omega
        have q1 : (k : Int) < (s.size : Int) := by omega
        have q2 : (k : Int) + 1 ≤ (s.size : Int) := by omega
        have c5 : IntKind.i64.wrap ((k : Int) + 1) = (k : Int) + 1 := wrap_idU (by omega) (by omega)
        have c6 : ((k : Int) + 1).toNat = k + 1 := by omega
        clear hend hbk
        go_wp2_with fail
        refine (ref_token_any _ _ (by unfold maxLen; omega)).mono ?_
        rintro e w2 ⟨rfl, rfl⟩
        go_wp2_with fail
        exact bodyPost_ret (v := .tuple #[.agg #[.string (⟨#[]⟩), .string (⟨#[]⟩)], .int .i64 6]) (by simp [results, Tryz.results84, go_sem]) rfl ⟨by rw [HE.out, HN.out, HV.out], by first | exact (Below.refl _ _).alloc (Nat.le_refl _) _ | exact ((Below.refl _ _).alloc (Nat.le_refl _) _).trans ((gdrewN _ 1).mono (by simp))⟩
      · have hbk : bt s k = 58 := by omega
        have t1 : ((s[k].toNat : Int) != 58) = false := by rw [bt_at s k h1, hbk]; rfl
        have t2 : ((k : Int) == (s.size : Int)) = false := by rw [beq_eq_false_iff_ne]; omega
        have q1 : (k : Int) < (s.size : Int) := by omega
        have q2 : (k : Int) + 1 ≤ (s.size : Int) := by omega
        have c5 : IntKind.i64.wrap ((k : Int) + 1) = (k : Int) + 1 := wrap_idU (by omega) (by omega)
        have c6 : ((k : Int) + 1).toNat = k + 1 := by omega
        clear hend hbk
        go_wp2_with fail
        refine (ref_token_any _ _ (by unfold maxLen; omega)).mono ?_
        rintro e w2 ⟨rfl, rfl⟩
        go_wp2_with fail
        refine (ref_value_any _ _ (by unfold maxLen; omega)).mono ?_
        rintro e w3 ⟨rfl, rfl⟩
        go_wp2_with fail
        exact bodyPost_ret (v := .tuple #[.agg #[.string (⟨#[]⟩), .string (⟨#[]⟩)], .int .i64 7]) (by simp [results, Tryz.results84, go_sem]) rfl ⟨by rw [HE.out, HN.out, HV.out], by first | exact (Below.refl _ _).alloc (Nat.le_refl _) _ | exact ((Below.refl _ _).alloc (Nat.le_refl _) _).trans ((gdrewN _ 1).mono (by simp))⟩
      · have hbk : bt s k = 58 := by omega
        have t1 : ((s[k].toNat : Int) != 58) = false := by rw [bt_at s k h1, hbk]; rfl
        have t2 : ((k : Int) == (s.size : Int)) = false := by rw [beq_eq_false_iff_ne]; omega
        have q1 : (k : Int) < (s.size : Int) := by omega
        have q2 : (k : Int) + 1 ≤ (s.size : Int) := by omega
        have c5 : IntKind.i64.wrap ((k : Int) + 1) = (k : Int) + 1 := wrap_idU (by omega) (by omega)
        have c6 : ((k : Int) + 1).toNat = k + 1 := by omega
        clear hend hbk
        go_wp2_with fail
        refine (ref_token_any _ _ (by unfold maxLen; omega)).mono ?_
        rintro e w2 ⟨rfl, rfl⟩
        go_wp2_with fail
        refine (ref_value_any _ _ (by unfold maxLen; omega)).mono ?_
        rintro e w3 ⟨rfl, rfl⟩
        go_wp2_with fail
        first
          | go_region_with (first
              | (go_at_call 98; refine (ref_trim_any _ _ (by unfold maxLen; omega)).mono ?_; rintro e w4 ⟨rfl, rfl⟩))
          | fail
        go_wp2_with fail
        try go_simp
        exact bodyPost_ret (v := .tuple #[.agg #[.string (s.extract 0 k), .string (trimB (s.extract (k + 1) s.size))], .int .i64 0]) (by simp [results, Tryz.results84, go_sem]) rfl ⟨by rw [HE.out, HN.out, HV.out], by first | exact (Below.refl _ _).alloc (Nat.le_refl _) _ | exact ((Below.refl _ _).alloc (Nat.le_refl _) _).trans ((gdrewN _ 1).mono (by simp))⟩
end Go.Proofs.YtcbfhlnnfnpkdaaGreatDoor
