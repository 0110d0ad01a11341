/- Dates of fields (layer 6): what takes the signs of a pattern, the program's. -/
import Derived.Test.YtgamekfickheaaaGreatDta
import Derived.Test.YtgamekfickheaaaGreatBld
import Derived.Test.YtgamekfickheaaaGreatShb
import Derived.Deep.RegionHeld3
namespace Go.Proofs.YtgamekfickheaaaGreat
open Go.RowKit
set_option linter.unusedVariables false
set_option linter.unusedSimpArgs false

/-- What was found of a date, and what is left. -/
structure Fd where
  l : List UInt8
  y : Int
  m : Int
  d : Int
  h : Int
  i : Int
  s : Int
  wk : Int
def fdC (f : Fd) : Array Value := #[.string (ofL f.l), .int .i64 f.y, .int .i64 f.m, .int .i64 f.d, .int .i64 f.h, .int .i64 f.i, .int .i64 f.s, .int .i64 f.wk]
theorem ofL_take (l : List UInt8) (k : Nat) : (ofL l).extract 0 k = ofL (l.take k) := by
  refine ba_ext ?_
  rw [Lib.extract_data]
  simp [ofL]
theorem ofL_drop (l : List UInt8) (k : Nat) : (ofL l).extract k (ofL l).size = ofL (l.drop k) := by
  refine ba_ext ?_
  rw [Lib.extract_data, ofL_size]
  have hd : (ofL l).data.toList = l := by simp [ofL]
  rw [hd, List.take_of_length_le (by rw [List.length_drop]; omega)]
  simp [ofL]
def numL (k : Nat) (l : List UInt8) : Option Int := if l.length < k then none else if numE 10 (ofL (l.take k)) 9999 = 0 then some (numV 10 (ofL (l.take k)) 9999) else none
def wdI (most : Nat) (l : List UInt8) : Option Nat := (List.range 7).find? fun i => Lib.hasPrefix l ((wdS i).data.toList.take most)
def moI (l : List UInt8) : Option Nat := (List.range 12).find? fun i => Lib.hasPrefix l (moS i).data.toList
def txL (p : List UInt8) (f : Fd) : Option Fd := if Lib.hasPrefix f.l p = true then some { f with l := f.l.drop p.length } else none
/-- One sign. -/
def oneS (c : Nat) (f : Fd) : Option Fd :=
  if c = 119 then (wdI 3 f.l).map fun (i : Nat) => { f with l := f.l.drop ((wdS i).data.toList.take 3).length, wk := i }
  else if c = 108 then (wdI 9 f.l).map fun (i : Nat) => { f with l := f.l.drop ((wdS i).data.toList.take 9).length, wk := i }
  else if c = 98 then (moI f.l).map fun (i : Nat) => { f with l := f.l.drop (moS i).data.toList.length, m := i + 1 }
  else if c = 112 then (if Lib.hasPrefix f.l [32] = true then (numL 1 (f.l.drop 1)).map fun n => { f with l := (f.l.drop 1).drop 1, d := n } else (numL 2 f.l).map fun n => { f with l := f.l.drop 2, d := n })
  else if c = 100 then (numL 2 f.l).map fun n => { f with l := f.l.drop 2, d := n }
  else if c = 121 then (numL 4 f.l).map fun n => { f with l := f.l.drop 4, y := n }
  else if c = 101 then (numL 2 f.l).map fun n => { f with l := f.l.drop 2, y := n }
  else if c = 104 then (numL 2 f.l).map fun n => { f with l := f.l.drop 2, h := n }
  else if c = 105 then (numL 2 f.l).map fun n => { f with l := f.l.drop 2, i := n }
  else if c = 115 then (numL 2 f.l).map fun n => { f with l := f.l.drop 2, s := n }
  else txL [UInt8.ofNat c] f
def allS : List UInt8 → Fd → Option Fd
  | [], f => if f.l = [] then some f else none
  | c :: cs, f => match oneS c.toNat f with | none => none | some g => allS cs g
structure FdB (b : Nat) (f : Fd) (w : World) : Prop where
  hb : w.heap[b]? = some (.cells (fdC f) 98 (0, 0))
  sz : f.l.length ≤ 100000
/-- What a sign comes to. -/
def RetO (o : Option Fd) (b : Nat) (w : World) (e : Ending) (w' : World) : Prop :=
  ∃ f', e = .returned (.bool o.isSome) ∧ FdB b f' w' ∧ Onl b none w w' ∧ ∀ g, o = some g → f' = g
/-- What a text comes to: nothing is taken where it does not stand. -/
def RetT (o : Option Fd) (f : Fd) (b : Nat) (w : World) (e : Ending) (w' : World) : Prop :=
  e = .returned (.bool o.isSome) ∧ FdB b (o.getD f) w' ∧ Onl b none w w'
theorem ftext_any (b : Nat) (f : Fd) (p : ByteArray) (w : World) (h : FdB b f w) :
    Calls Tryz.prog 122 #[.pointer (some ⟨b, 0, none⟩), .string p] w (RetT (txL p.data.toList f) f b w) := by
  have H := Kp.mk h
  have c0 : w.cell? ⟨b, 0, none⟩ = some (.string (ofL f.l)) := blk_cell (i := 0) h.hb rfl
  have f0 := blk_free (i := 0) h.hb
  have HC := Kp.mk (Tryz.strings_CutPrefix (ofL f.l) p)
  have hd : (ofL f.l).data.toList = f.l := by simp [ofL]
  rw [hd] at HC
  have HS := Kp.mk (show txL p.data.toList f = if Lib.hasPrefix f.l p.data.toList = true then some { f with l := f.l.drop p.data.toList.length } else none from rfl)
  have HT := Kp.mk (show Lib.trimPrefix f.l p.data.toList = if Lib.hasPrefix f.l p.data.toList = true then f.l.drop p.data.toList.length else f.l from rfl)
  have HL := Kp.mk (show (f.l.drop p.data.toList.length).length ≤ f.l.length by simp)
  generalize txL p.data.toList f = TX at *
  generalize f.l.drop p.data.toList.length = L2 at *
  generalize Lib.trimPrefix f.l p.data.toList = TP at *
  generalize Lib.hasPrefix f.l p.data.toList = hp at *
  clear h hd
  go_enter Tryz.func122, Tryz.ntmps122
  go_wp2_with fail
  refine (HC.out _).mono ?_
  rintro e w1 ⟨rfl, rfl⟩
  unfold RetT
  cases hp
  · obtain rfl := HS.out
    obtain rfl := HT.out
    go_wp2_with fail
    go_ret
    exact ⟨rfl, ⟨by rw [blk_set H.out.hb]; rfl, H.out.sz⟩, (Onl.refl _ _ _).setCell _ _⟩
  · obtain rfl := HS.out
    obtain rfl := HT.out
    go_wp2_with fail
    go_ret
    exact ⟨rfl, ⟨by rw [blk_set H.out.hb]; rfl, Nat.le_trans HL.out H.out.sz⟩, (Onl.refl _ _ _).setCell _ _⟩
def wdV : Value := .agg #[.string (wdS 0), .string (wdS 1), .string (wdS 2), .string (wdS 3), .string (wdS 4), .string (wdS 5), .string (wdS 6)]
def moV : Value := .agg #[.string (moS 0), .string (moS 1), .string (moS 2), .string (moS 3), .string (moS 4), .string (moS 5), .string (moS 6), .string (moS 7), .string (moS 8), .string (moS 9), .string (moS 10), .string (moS 11)]
set_option maxRecDepth 100000 in
set_option maxHeartbeats 1000000 in
theorem weekdays_any (w : World) : Calls Tryz.prog 46 #[] w fun e w' => e = .returned wdV ∧ Below w.heap.size w w' := by
  have k1 := heap_alloc_new w (.cells #[.string (wdS 0), .string (wdS 1), .string (wdS 2), .string (wdS 3), .string (wdS 4), .string (wdS 5), .string (wdS 6)] 77)
  have z0 := blk_cell (i := 0) k1 rfl
  have z1 := blk_cell (i := 1) k1 rfl
  have z2 := blk_cell (i := 2) k1 rfl
  have z3 := blk_cell (i := 3) k1 rfl
  have z4 := blk_cell (i := 4) k1 rfl
  have z5 := blk_cell (i := 5) k1 rfl
  have z6 := blk_cell (i := 6) k1 rfl
  go_enter Tryz.func46, Tryz.ntmps46
  go_wp2_with fail
  exact bodyPost_ret (v := wdV) (by simp [results, Tryz.results46, go_sem, z0, z1, z2, z3, z4, z5, z6] <;> rfl) rfl ⟨rfl, (Below.refl _ _).alloc (Nat.le_refl _) _⟩
set_option maxRecDepth 100000 in
set_option maxHeartbeats 1000000 in
theorem months_any (w : World) : Calls Tryz.prog 48 #[] w fun e w' => e = .returned moV ∧ Below w.heap.size w w' := by
  have k1 := heap_alloc_new w (.cells #[.string (moS 0), .string (moS 1), .string (moS 2), .string (moS 3), .string (moS 4), .string (moS 5), .string (moS 6), .string (moS 7), .string (moS 8), .string (moS 9), .string (moS 10), .string (moS 11)] 80)
  have z0 := blk_cell (i := 0) k1 rfl
  have z1 := blk_cell (i := 1) k1 rfl
  have z2 := blk_cell (i := 2) k1 rfl
  have z3 := blk_cell (i := 3) k1 rfl
  have z4 := blk_cell (i := 4) k1 rfl
  have z5 := blk_cell (i := 5) k1 rfl
  have z6 := blk_cell (i := 6) k1 rfl
  have z7 := blk_cell (i := 7) k1 rfl
  have z8 := blk_cell (i := 8) k1 rfl
  have z9 := blk_cell (i := 9) k1 rfl
  have z10 := blk_cell (i := 10) k1 rfl
  have z11 := blk_cell (i := 11) k1 rfl
  go_enter Tryz.func48, Tryz.ntmps48
  go_wp2_with fail
  exact bodyPost_ret (v := moV) (by simp [results, Tryz.results48, go_sem, z0, z1, z2, z3, z4, z5, z6, z7, z8, z9, z10, z11] <;> rfl) rfl ⟨rfl, (Below.refl _ _).alloc (Nat.le_refl _) _⟩
theorem idx_wd (k : Nat) (hk : k < 7) (w : World) : (Instr.index 77 wdV (.int .i64 (k : Int))).run Tryz.prog w = .ok (.string (wdS k)) w := by
  rcases (by omega : k = 0 ∨ k = 1 ∨ k = 2 ∨ k = 3 ∨ k = 4 ∨ k = 5 ∨ k = 6) with rfl | rfl | rfl | rfl | rfl | rfl | rfl
  all_goals kernel_rfl
theorem idx_mo (k : Nat) (hk : k < 12) (w : World) : (Instr.index 80 moV (.int .i64 (k : Int))).run Tryz.prog w = .ok (.string (moS k)) w := by
  rcases (by omega : k = 0 ∨ k = 1 ∨ k = 2 ∨ k = 3 ∨ k = 4 ∨ k = 5 ∨ k = 6 ∨ k = 7 ∨ k = 8 ∨ k = 9 ∨ k = 10 ∨ k = 11) with rfl | rfl | rfl | rfl | rfl | rfl | rfl | rfl | rfl | rfl | rfl | rfl
  all_goals kernel_rfl
/-- The name of a weekday, at most so many octets of it. -/
theorem wd_take (most : Nat) (hm : most = 3 ∨ most = 9) (k : Nat) (hk : k < 7) : ∃ n : Nat, n ≤ (wdS k).size ∧ (min (most : Int) ((wdS k).size : Int)) = (n : Int) ∧ (wdS k).extract 0 n = ofL ((wdS k).data.toList.take most) := by
  have h := wdS_size k hk
  have hs : (wdS k).size = (wdS k).data.toList.length := ba_size' _
  rcases hm with rfl | rfl
  · refine ⟨3, by omega, by omega, ?_⟩
    exact ba_ext (by rw [Lib.extract_data]; simp [ofL])
  · refine ⟨(wdS k).size, Nat.le_refl _, ?_, ?_⟩
    · omega
    · refine ba_ext ?_
      rw [Lib.extract_data, List.drop_zero, List.take_of_length_le (by omega), List.take_of_length_le (by omega)]
      simp [ofL]
theorem find_hit {n k : Nat} {P : Nat → Bool} (hk : k < n) (h : P k = true) (hb : ∀ j, j < k → P j = false) : (List.range n).find? P = some k := by
  rw [List.find?_range_eq_some]
  exact ⟨h, by simpa using hk, fun j hj => by rw [hb j hj]; rfl⟩
theorem find_none {n : Nat} {P : Nat → Bool} (hb : ∀ j, j < n → P j = false) : (List.range n).find? P = none := by
  rw [List.find?_range_eq_none]
  exact fun j hj => by rw [hb j hj]; rfl
theorem FdB.below {b : Nat} {f : Fd} {w w' : World} (h : FdB b f w) (hb : Below w.heap.size w w') : FdB b f w' := ⟨(hb.block _ (blk_lt h.hb)).trans h.hb, h.sz⟩
set_option maxRecDepth 100000 in
set_option maxHeartbeats 2000000 in
theorem fname_any (b : Nat) (f : Fd) (most : Nat) (hm : most = 3 ∨ most = 9) (w : World) (h : FdB b f w) :
    Calls Tryz.prog 120 #[.pointer (some ⟨b, 0, none⟩), .int .i64 (most : Int), .pointer (some ⟨b, 7, none⟩)] w (RetO ((wdI most f.l).map fun (i : Nat) => { f with l := f.l.drop ((wdS i).data.toList.take most).length, wk := i }) b w) := by
  have H := Kp.mk h
  have HM := Kp.mk hm
  clear h hm
  go_enter Tryz.func120, Tryz.ntmps120
  go_wp2_with fail
  refine (weekdays_any _).mono ?_
  rintro e w1 ⟨rfl, hb1⟩
  have HB1 := Kp.mk hb1
  clear hb1
  go_wp2_with fail
  go_loopw [10] (fun i wr => ∃ k : Nat, k ≤ 7 ∧ i = .int .i64 k ∧ (∀ j, j < k → Lib.hasPrefix f.l ((wdS j).data.toList.take most) = false) ∧ FdB b f wr ∧ Onl b none w wr) (fun i _ => 7 - (intOf i).toNat)
  case atStart => exact ⟨0, by omega, rfl, fun j h => by omega, H.out.below HB1.out, Onl.of HB1.out⟩
  case round =>
    obtain ⟨k, hk, rfl, hh, hf, ho⟩ := hrel
    have HH := Kp.mk hh
    have HF := Kp.mk hf
    have HO := Kp.mk ho
    clear hh hf ho
    by_cases hlt : k < 7
    · have hix := fun w => idx_wd k hlt w
      obtain ⟨n, hn1, hn2, hn3⟩ := wd_take most HM.out k hlt
      have hsz := wdS_size k hlt
      have hkk : (k : Int) < 7 := by omega
      have HN := Kp.mk (show (wdS k).extract 0 (min (most : Int) ((wdS k).size : Int)).toNat = ofL ((wdS k).data.toList.take most) by rw [hn2, ← hn3]; rfl)
      have hm0 : 0 ≤ min (most : Int) ((wdS k).size : Int) := by omega
      have hm1 : min (most : Int) ((wdS k).size : Int) ≤ ((wdS k).size : Int) := by omega
      clear hn1 hn2 hn3
      go_wp2_with fail
      rw [HN.out]
      refine (ftext_any b f _ wr HF.out).mono ?_
      rintro e w2 ⟨rfl, hf2, ho2⟩
      have hpl : (ofL ((wdS k).data.toList.take most)).data.toList = (wdS k).data.toList.take most := by simp [ofL]
      rw [hpl] at hf2 ⊢
      have HO2 := Kp.mk (HO.out.trans (Nxt.refl _ _) ho2)
      cases hp : Lib.hasPrefix f.l ((wdS k).data.toList.take most)
      · have ht : txL ((wdS k).data.toList.take most) f = none := by unfold txL; rw [hp]; rfl
        rw [ht] at hf2 ⊢
        have HF2 := Kp.mk (show FdB b f w2 from hf2)
        have HH2 := Kp.mk (show ∀ j, j < k + 1 → Lib.hasPrefix f.l ((wdS j).data.toList.take most) = false from fun j hj => by
          rcases Nat.lt_or_ge j k with h1 | h1
          · exact HH.out j h1
          · obtain rfl : j = k := by omega
            exact hp)
        clear hf2 ht hp hpl ho2
        go_wp2_with fail
        go_roundw
        case rel => exact ⟨k + 1, by omega, by go_num, HH2.out, HF2.out, HO2.out⟩
        case measure => simp [intOf]; omega
      · have ht : txL ((wdS k).data.toList.take most) f = some { f with l := f.l.drop ((wdS k).data.toList.take most).length } := by unfold txL; rw [hp]; rfl
        rw [ht] at hf2 ⊢
        have HR := Kp.mk (show wdI most f.l = some k from find_hit hlt hp HH.out)
        generalize hL : (f.l.drop ((wdS k).data.toList.take most).length) = L2 at *
        have HLq := Kp.mk hL
        clear hL
        have HF2 := Kp.mk (show FdB b { f with l := L2 } w2 from hf2)
        have c7 : w2.cell? ⟨b, 7, none⟩ = some (.int .i64 f.wk) := blk_cell (i := 7) HF2.out.hb rfl
        have f7 := blk_free (i := 7) HF2.out.hb
        clear hf2 ht hp hpl ho2
        go_wp2_with fail
        go_ret
        exact ⟨{ f with l := L2, wk := k }, by rw [HR.out]; rfl, ⟨by rw [blk_set HF2.out.hb]; rfl, HF2.out.sz⟩, HO2.out.setCell _ _, fun g hg => by rw [HR.out] at hg; cases hg; exact congrArg (fun q => ({ f with l := q, wk := k } : Fd)) HLq.out.symm⟩
    · obtain rfl : k = 7 := by omega
      go_wp2_with fail
      go_ret
      refine ⟨f, by rw [show wdI most f.l = none from find_none HH.out]; rfl, HF.out, HO.out, fun g hg => by rw [show wdI most f.l = none from find_none HH.out] at hg; cases hg⟩
set_option maxRecDepth 100000 in
set_option maxHeartbeats 2000000 in
theorem fmonth_any (b : Nat) (f : Fd) (w : World) (h : FdB b f w) :
    Calls Tryz.prog 121 #[.pointer (some ⟨b, 0, none⟩)] w (RetO ((moI f.l).map fun (i : Nat) => { f with l := f.l.drop (moS i).data.toList.length, m := i + 1 }) b w) := by
  have H := Kp.mk h
  clear h
  go_enter Tryz.func121, Tryz.ntmps121
  go_wp2_with fail
  refine (months_any _).mono ?_
  rintro e w1 ⟨rfl, hb1⟩
  have HB1 := Kp.mk hb1
  clear hb1
  go_wp2_with fail
  go_loopw [6] (fun i wr => ∃ k : Nat, k ≤ 12 ∧ i = .int .i64 k ∧ (∀ j, j < k → Lib.hasPrefix f.l (moS j).data.toList = false) ∧ FdB b f wr ∧ Onl b none w wr) (fun i _ => 12 - (intOf i).toNat)
  case atStart => exact ⟨0, by omega, rfl, fun j h => by omega, H.out.below HB1.out, Onl.of HB1.out⟩
  case round =>
    obtain ⟨k, hk, rfl, hh, hf, ho⟩ := hrel
    have HH := Kp.mk hh
    have HF := Kp.mk hf
    have HO := Kp.mk ho
    clear hh hf ho
    by_cases hlt : k < 12
    · have hix := fun w => idx_mo k hlt w
      have hkk : (k : Int) < 12 := by omega
      go_wp2_with fail
      refine (ftext_any b f _ wr HF.out).mono ?_
      rintro e w2 ⟨rfl, hf2, ho2⟩
      have HO2 := Kp.mk (HO.out.trans (Nxt.refl _ _) ho2)
      cases hp : Lib.hasPrefix f.l (moS k).data.toList
      · have ht : txL (moS k).data.toList f = none := by unfold txL; rw [hp]; rfl
        rw [ht] at hf2 ⊢
        have HF2 := Kp.mk (show FdB b f w2 from hf2)
        have HH2 := Kp.mk (show ∀ j, j < k + 1 → Lib.hasPrefix f.l (moS j).data.toList = false from fun j hj => by
          rcases Nat.lt_or_ge j k with h1 | h1
          · exact HH.out j h1
          · obtain rfl : j = k := by omega
            exact hp)
        clear hf2 ht hp ho2
        go_wp2_with fail
        go_roundw
        case rel => exact ⟨k + 1, by omega, by go_num, HH2.out, HF2.out, HO2.out⟩
        case measure => simp [intOf]; omega
      · have ht : txL (moS k).data.toList f = some { f with l := f.l.drop (moS k).data.toList.length } := by unfold txL; rw [hp]; rfl
        rw [ht] at hf2 ⊢
        have HR := Kp.mk (show moI f.l = some k from find_hit hlt hp HH.out)
        generalize hL : (f.l.drop (moS k).data.toList.length) = L2 at *
        have HLq := Kp.mk hL
        clear hL
        have HF2 := Kp.mk (show FdB b { f with l := L2 } w2 from hf2)
        have c2 : w2.cell? ⟨b, 2, none⟩ = some (.int .i64 f.m) := blk_cell (i := 2) HF2.out.hb rfl
        have f2 := blk_free (i := 2) HF2.out.hb
        clear hf2 ht hp ho2
        go_wp2_with fail
        go_ret
        exact ⟨{ f with l := L2, m := k + 1 }, by rw [HR.out]; rfl, ⟨by rw [blk_set HF2.out.hb]; rfl, HF2.out.sz⟩, HO2.out.setCell _ _, fun g hg => by rw [HR.out] at hg; cases hg; exact congrArg (fun q => ({ f with l := q, m := k + 1 } : Fd)) HLq.out.symm⟩
    · obtain rfl : k = 12 := by omega
      go_wp2_with fail
      go_ret
      refine ⟨f, by rw [show moI f.l = none from find_none HH.out]; rfl, HF.out, HO.out, fun g hg => by rw [show moI f.l = none from find_none HH.out] at hg; cases hg⟩
/-- A number goes to one of the date's cells. -/
def Fd.put (f : Fd) : Nat → Int → Fd
  | 1, n => { f with y := n }
  | 3, n => { f with d := n }
  | 4, n => { f with h := n }
  | 5, n => { f with i := n }
  | 6, n => { f with s := n }
  | _, _ => f
theorem fdC_put {f : Fd} {j : Nat} (hj : j = 1 ∨ j = 3 ∨ j = 4 ∨ j = 5 ∨ j = 6) (n : Int) (L : List UInt8) : ((fdC f).setIfInBounds j (.int .i64 n)).setIfInBounds 0 (.string (ofL L)) = fdC { f.put j n with l := L } := by
  rcases hj with rfl | rfl | rfl | rfl | rfl <;> rfl
theorem fdC_int {f : Fd} {j : Nat} (hj : j = 1 ∨ j = 3 ∨ j = 4 ∨ j = 5 ∨ j = 6) : ∃ n : Int, (fdC f)[j]? = some (.int .i64 n) := by
  rcases hj with rfl | rfl | rfl | rfl | rfl <;> exact ⟨_, rfl⟩
set_option maxRecDepth 100000 in
set_option maxHeartbeats 2000000 in
theorem fnumber_any (b : Nat) (f : Fd) (k : Nat) (j : Nat) (hj : j = 1 ∨ j = 3 ∨ j = 4 ∨ j = 5 ∨ j = 6) (hk : k ≤ 9) (w : World) (h : FdB b f w) :
    Calls Tryz.prog 123 #[.pointer (some ⟨b, 0, none⟩), .int .i64 (k : Int), .pointer (some ⟨b, j, none⟩)] w (RetO ((numL k f.l).map fun n => { f.put j n with l := f.l.drop k }) b w) := by
  have H := Kp.mk h
  have HJ := Kp.mk hj
  have c0 : w.cell? ⟨b, 0, none⟩ = some (.string (ofL f.l)) := blk_cell (i := 0) h.hb rfl
  have f0 := blk_free (i := 0) h.hb
  have f1 := blk_free (i := j) h.hb
  obtain ⟨n0, hn0⟩ := fdC_int (f := f) hj
  have c1 := blk_cell (i := j) h.hb hn0
  have hz : (ofL f.l).size = f.l.length := ofL_size _
  have hl := h.sz
  have hj0 : ¬ j = 0 := by omega
  have hj1 : ¬ 0 = j := by omega
  clear h hj hn0
  by_cases hs : f.l.length < k
  · have HN := Kp.mk (show numL k f.l = none by unfold numL; rw [if_pos hs])
    have hs1 : (f.l.length : Int) < (k : Int) := by omega
    go_enter Tryz.func123, Tryz.ntmps123
    go_wp2_with fail
    go_ret
    exact ⟨f, by rw [HN.out]; rfl, H.out, Onl.refl _ _ _, fun g hg => by rw [HN.out] at hg; cases hg⟩
  · have HN := Kp.mk (show numL k f.l = if numE 10 (ofL (f.l.take k)) 9999 = 0 then some (numV 10 (ofL (f.l.take k)) 9999) else none by unfold numL; rw [if_neg hs])
    have hs1 : ¬ (f.l.length : Int) < (k : Int) := by omega
    have hs2 : (k : Int) ≤ (f.l.length : Int) := by omega
    have hs3 : (0 : Int) ≤ (k : Int) := by omega
    have HT := Kp.mk (ofL_take f.l k)
    have HDR := Kp.mk (ofL_drop f.l k)
    rw [hz] at HDR
    have HD := Kp.mk (fun w => dec_any (ofL (f.l.take k)) 9999 w (by rw [ofL_size, List.length_take]; unfold maxLen; omega) (by omega) (by omega))
    generalize numE 10 (ofL (f.l.take k)) 9999 = E at *
    generalize numV 10 (ofL (f.l.take k)) 9999 = V at *
    generalize ofL (f.l.take k) = T1 at *
    have HLN := Kp.mk (show (f.l.drop k).length ≤ 100000 by simp; omega)
    generalize f.l.drop k = L2 at *
    go_enter Tryz.func123, Tryz.ntmps123
    go_wp2_with fail
    rw [HT.out]
    refine (HD.out _).mono ?_
    rintro e w1 ⟨rfl, hb1⟩
    have hbb := (hb1.block _ (blk_lt H.out.hb)).trans H.out.hb
    have HBB := Kp.mk hbb
    have HON := Kp.mk (show Onl b none w w1 from Onl.of hb1)
    have e0 : w1.cell? ⟨b, 0, none⟩ = some (.string (ofL f.l)) := blk_cell (i := 0) hbb rfl
    have e1 := (hb1.cell (p := ⟨b, j, none⟩) (blk_lt H.out.hb)).trans c1
    have g0 := blk_free (i := 0) hbb
    have g1 := blk_free (i := j) hbb
    clear hb1 hbb c0 c1 f0 f1
    go_upto_region 4 with fail
    go_region
    rw [HDR.out]
    have HW := Kp.mk (show ((w1.setCell ⟨b, j, none⟩ (.int .i64 V)).setCell ⟨b, 0, none⟩ (.string (ofL L2))).drew.heap[b]? = some (.cells (fdC { f.put j V with l := L2 }) 98 (0, 0)) by
      rw [← fdC_put HJ.out]
      exact blk_set (blk_set HBB.out (i := j) (.int .i64 V)) (i := 0) (.string (ofL L2)))
    have HO9 := Kp.mk (show Onl b none w ((w1.setCell ⟨b, j, none⟩ (.int .i64 V)).setCell ⟨b, 0, none⟩ (.string (ofL L2))).drew from ((HON.out.setCell _ _).setCell _ _).drewN 1)
    by_cases hE : E = 0
    · subst hE
      have HV := Kp.mk (HN.out.trans (if_pos rfl))
      go_wp2_with fail
      go_ret
      exact ⟨{ f.put j V with l := L2 }, by rw [HV.out]; rfl, ⟨HW.out, HLN.out⟩, HO9.out, fun g hg => by rw [HV.out] at hg; cases hg; rfl⟩
    · have HV := Kp.mk (HN.out.trans (if_neg hE))
      have hE2 : (E == 0) = false := by rw [beq_eq_false_iff_ne]; exact hE
      go_wp2_with fail
      go_ret
      exact ⟨{ f.put j V with l := L2 }, by rw [HV.out]; rfl, ⟨HW.out, HLN.out⟩, HO9.out, fun g hg => by rw [HV.out] at hg; cases hg⟩
/-- The signs of the patterns. -/
def alphaL : List Nat := [119, 44, 32, 100, 98, 121, 104, 58, 105, 115, 71, 77, 84, 108, 45, 101, 112]
theorem RetO.of_text {o : Option Fd} {f : Fd} {b : Nat} {w : World} {e : Ending} {w' : World} (h : RetT o f b w e w') : RetO o b w e w' :=
  ⟨_, h.1, h.2.1, h.2.2, fun g hg => by rw [hg]; rfl⟩
set_option maxRecDepth 100000 in
set_option maxHeartbeats 4000000 in
theorem fone_any (b : Nat) (f : Fd) (c : Nat) (hc : c ∈ alphaL) (w : World) (h : FdB b f w) :
    Calls Tryz.prog 94 #[.pointer (some ⟨b, 0, none⟩), .int .i32 (c : Int)] w (RetO (oneS c f) b w) := by
  have H := Kp.mk h
  clear h
  simp only [alphaL, List.mem_cons, List.not_mem_nil, or_false] at hc
  rcases hc with rfl | rfl | rfl | rfl | rfl | rfl | rfl | rfl | rfl | rfl | rfl | rfl | rfl | rfl | rfl | rfl | rfl
  · show Calls _ _ _ _ (RetO ((wdI 3 f.l).map fun (i : Nat) => { f with l := f.l.drop ((wdS i).data.toList.take 3).length, wk := i }) b w)
    go_enter Tryz.func94, Tryz.ntmps94
    go_wp2_with fail
    refine (fname_any b f 3 (.inl rfl) w H.out).mono ?_
    rintro e w2 ⟨f', rfl, h1, h2, h3⟩
    go_wp2_with fail
    go_ret
    exact ⟨f', by first | rfl | (rw [Option.isSome_map]; rfl) | (simp; done), h1, h2, h3⟩
  · show Calls _ _ _ _ (RetO (txL [44] f) b w)
    go_enter Tryz.func94, Tryz.ntmps94
    go_wp2_with fail
    refine (ftext_any b f ⟨#[44]⟩ w H.out).mono ?_
    rintro e w2 h
    obtain ⟨f', rfl, h1, h2, h3⟩ := RetO.of_text h
    rw [show (⟨#[44]⟩ : ByteArray).data.toList = [44] from rfl] at *
    go_wp2_with fail
    go_ret
    exact ⟨f', by first | rfl | (rw [Option.isSome_map]; rfl) | (simp; done), h1, h2, h3⟩
  · show Calls _ _ _ _ (RetO (txL [32] f) b w)
    go_enter Tryz.func94, Tryz.ntmps94
    go_wp2_with fail
    refine (ftext_any b f ⟨#[32]⟩ w H.out).mono ?_
    rintro e w2 h
    obtain ⟨f', rfl, h1, h2, h3⟩ := RetO.of_text h
    rw [show (⟨#[32]⟩ : ByteArray).data.toList = [32] from rfl] at *
    go_wp2_with fail
    go_ret
    exact ⟨f', by first | rfl | (rw [Option.isSome_map]; rfl) | (simp; done), h1, h2, h3⟩
  · show Calls _ _ _ _ (RetO ((numL 2 f.l).map fun n => { f.put 3 n with l := f.l.drop 2 }) b w)
    go_enter Tryz.func94, Tryz.ntmps94
    go_wp2_with fail
    refine (fnumber_any b f 2 3 (by omega) (by omega) w H.out).mono ?_
    rintro e w2 ⟨f', rfl, h1, h2, h3⟩
    go_wp2_with fail
    go_ret
    exact ⟨f', by first | rfl | (rw [Option.isSome_map]; rfl) | (simp; done), h1, h2, h3⟩
  · show Calls _ _ _ _ (RetO ((moI f.l).map fun (i : Nat) => { f with l := f.l.drop (moS i).data.toList.length, m := i + 1 }) b w)
    go_enter Tryz.func94, Tryz.ntmps94
    go_wp2_with fail
    refine (fmonth_any b f w H.out).mono ?_
    rintro e w2 ⟨f', rfl, h1, h2, h3⟩
    go_wp2_with fail
    go_ret
    exact ⟨f', by first | rfl | (rw [Option.isSome_map]; rfl) | (simp; done), h1, h2, h3⟩
  · show Calls _ _ _ _ (RetO ((numL 4 f.l).map fun n => { f.put 1 n with l := f.l.drop 4 }) b w)
    go_enter Tryz.func94, Tryz.ntmps94
    go_wp2_with fail
    refine (fnumber_any b f 4 1 (by omega) (by omega) w H.out).mono ?_
    rintro e w2 ⟨f', rfl, h1, h2, h3⟩
    go_wp2_with fail
    go_ret
    exact ⟨f', by first | rfl | (rw [Option.isSome_map]; rfl) | (simp; done), h1, h2, h3⟩
  · show Calls _ _ _ _ (RetO ((numL 2 f.l).map fun n => { f.put 4 n with l := f.l.drop 2 }) b w)
    go_enter Tryz.func94, Tryz.ntmps94
    go_wp2_with fail
    refine (fnumber_any b f 2 4 (by omega) (by omega) w H.out).mono ?_
    rintro e w2 ⟨f', rfl, h1, h2, h3⟩
    go_wp2_with fail
    go_ret
    exact ⟨f', by first | rfl | (rw [Option.isSome_map]; rfl) | (simp; done), h1, h2, h3⟩
  · show Calls _ _ _ _ (RetO (txL [58] f) b w)
    go_enter Tryz.func94, Tryz.ntmps94
    go_wp2_with fail
    refine (ftext_any b f ⟨#[58]⟩ w H.out).mono ?_
    rintro e w2 h
    obtain ⟨f', rfl, h1, h2, h3⟩ := RetO.of_text h
    rw [show (⟨#[58]⟩ : ByteArray).data.toList = [58] from rfl] at *
    go_wp2_with fail
    go_ret
    exact ⟨f', by first | rfl | (rw [Option.isSome_map]; rfl) | (simp; done), h1, h2, h3⟩
  · show Calls _ _ _ _ (RetO ((numL 2 f.l).map fun n => { f.put 5 n with l := f.l.drop 2 }) b w)
    go_enter Tryz.func94, Tryz.ntmps94
    go_wp2_with fail
    refine (fnumber_any b f 2 5 (by omega) (by omega) w H.out).mono ?_
    rintro e w2 ⟨f', rfl, h1, h2, h3⟩
    go_wp2_with fail
    go_ret
    exact ⟨f', by first | rfl | (rw [Option.isSome_map]; rfl) | (simp; done), h1, h2, h3⟩
  · show Calls _ _ _ _ (RetO ((numL 2 f.l).map fun n => { f.put 6 n with l := f.l.drop 2 }) b w)
    go_enter Tryz.func94, Tryz.ntmps94
    go_wp2_with fail
    refine (fnumber_any b f 2 6 (by omega) (by omega) w H.out).mono ?_
    rintro e w2 ⟨f', rfl, h1, h2, h3⟩
    go_wp2_with fail
    go_ret
    exact ⟨f', by first | rfl | (rw [Option.isSome_map]; rfl) | (simp; done), h1, h2, h3⟩
  · show Calls _ _ _ _ (RetO (txL [71] f) b w)
    go_enter Tryz.func94, Tryz.ntmps94
    go_wp2_with fail
    refine (ftext_any b f ⟨#[71]⟩ w H.out).mono ?_
    rintro e w2 h
    obtain ⟨f', rfl, h1, h2, h3⟩ := RetO.of_text h
    rw [show (⟨#[71]⟩ : ByteArray).data.toList = [71] from rfl] at *
    go_wp2_with fail
    go_ret
    exact ⟨f', by first | rfl | (rw [Option.isSome_map]; rfl) | (simp; done), h1, h2, h3⟩
  · show Calls _ _ _ _ (RetO (txL [77] f) b w)
    go_enter Tryz.func94, Tryz.ntmps94
    go_wp2_with fail
    refine (ftext_any b f ⟨#[77]⟩ w H.out).mono ?_
    rintro e w2 h
    obtain ⟨f', rfl, h1, h2, h3⟩ := RetO.of_text h
    rw [show (⟨#[77]⟩ : ByteArray).data.toList = [77] from rfl] at *
    go_wp2_with fail
    go_ret
    exact ⟨f', by first | rfl | (rw [Option.isSome_map]; rfl) | (simp; done), h1, h2, h3⟩
  · show Calls _ _ _ _ (RetO (txL [84] f) b w)
    go_enter Tryz.func94, Tryz.ntmps94
    go_wp2_with fail
    refine (ftext_any b f ⟨#[84]⟩ w H.out).mono ?_
    rintro e w2 h
    obtain ⟨f', rfl, h1, h2, h3⟩ := RetO.of_text h
    rw [show (⟨#[84]⟩ : ByteArray).data.toList = [84] from rfl] at *
    go_wp2_with fail
    go_ret
    exact ⟨f', by first | rfl | (rw [Option.isSome_map]; rfl) | (simp; done), h1, h2, h3⟩
  · show Calls _ _ _ _ (RetO ((wdI 9 f.l).map fun (i : Nat) => { f with l := f.l.drop ((wdS i).data.toList.take 9).length, wk := i }) b w)
    go_enter Tryz.func94, Tryz.ntmps94
    go_wp2_with fail
    refine (fname_any b f 9 (.inr rfl) w H.out).mono ?_
    rintro e w2 ⟨f', rfl, h1, h2, h3⟩
    go_wp2_with fail
    go_ret
    exact ⟨f', by first | rfl | (rw [Option.isSome_map]; rfl) | (simp; done), h1, h2, h3⟩
  · show Calls _ _ _ _ (RetO (txL [45] f) b w)
    go_enter Tryz.func94, Tryz.ntmps94
    go_wp2_with fail
    refine (ftext_any b f ⟨#[45]⟩ w H.out).mono ?_
    rintro e w2 h
    obtain ⟨f', rfl, h1, h2, h3⟩ := RetO.of_text h
    rw [show (⟨#[45]⟩ : ByteArray).data.toList = [45] from rfl] at *
    go_wp2_with fail
    go_ret
    exact ⟨f', by first | rfl | (rw [Option.isSome_map]; rfl) | (simp; done), h1, h2, h3⟩
  · show Calls _ _ _ _ (RetO ((numL 2 f.l).map fun n => { f.put 1 n with l := f.l.drop 2 }) b w)
    go_enter Tryz.func94, Tryz.ntmps94
    go_wp2_with fail
    refine (fnumber_any b f 2 1 (by omega) (by omega) w H.out).mono ?_
    rintro e w2 ⟨f', rfl, h1, h2, h3⟩
    go_wp2_with fail
    go_ret
    exact ⟨f', by first | rfl | (rw [Option.isSome_map]; rfl) | (simp; done), h1, h2, h3⟩
  · cases hp : Lib.hasPrefix f.l [32]
    · have e1 : txL [32] f = none := by unfold txL; rw [hp]; rfl
      rw [show oneS 112 f = (numL 2 f.l).map fun n => { f.put 3 n with l := f.l.drop 2 } from by unfold oneS; simp only [hp]; rfl]
      clear hp
      go_enter Tryz.func94, Tryz.ntmps94
      go_wp2_with fail
      refine (ftext_any b f _ w H.out).mono ?_
      rintro e w1 ⟨rfl, h1, h2⟩
      rw [show txL (⟨#[32]⟩ : ByteArray).data.toList f = none from e1] at h1 ⊢
      have H2 := Kp.mk h2
      have H1 := Kp.mk (show FdB b f w1 from h1)
      clear h1 h2
      go_wp2_with fail
      refine (fnumber_any b f 2 3 (by omega) (by omega) w1 H1.out).mono ?_
      rintro e w2 ⟨f', rfl, h1, h2, h3⟩
      go_wp2_with fail
      go_ret
      exact ⟨f', by first | rfl | (rw [Option.isSome_map]; rfl) | (simp; done), h1, H2.out.trans (Nxt.refl _ _) h2, h3⟩
    · have e1 : txL [32] f = some { f with l := f.l.drop 1 } := by unfold txL; rw [hp]; rfl
      rw [show oneS 112 f = (numL 1 (f.l.drop 1)).map fun n => { ({ f with l := f.l.drop 1 } : Fd).put 3 n with l := (f.l.drop 1).drop 1 } from by unfold oneS; simp only [hp]; rfl]
      clear hp
      go_enter Tryz.func94, Tryz.ntmps94
      go_wp2_with fail
      refine (ftext_any b f _ w H.out).mono ?_
      rintro e w1 ⟨rfl, h1, h2⟩
      rw [show txL (⟨#[32]⟩ : ByteArray).data.toList f = some { f with l := f.l.drop 1 } from e1] at h1 ⊢
      have H2 := Kp.mk h2
      have H1 := Kp.mk (show FdB b { f with l := f.l.drop 1 } w1 from h1)
      clear h1 h2
      go_wp2_with fail
      refine (fnumber_any b { f with l := f.l.drop 1 } 1 3 (by omega) (by omega) w1 H1.out).mono ?_
      rintro e w2 ⟨f', rfl, h1, h2, h3⟩
      go_wp2_with fail
      go_ret
      exact ⟨f', by first | rfl | (rw [Option.isSome_map]; rfl) | (simp; done), h1, H2.out.trans (Nxt.refl _ _) h2, h3⟩

end Go.Proofs.YtgamekfickheaaaGreat
