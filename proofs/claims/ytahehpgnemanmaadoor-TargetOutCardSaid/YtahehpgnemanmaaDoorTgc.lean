/- Targets (layer 12): Parse, the program's. -/
import Derived.Test.YtahehpgnemanmaaDoorTgb
import Derived.Test.YtahehpgnemanmaaDoorPrc
import Derived.Deep.RegionWith
import Derived.Deep.RegionHeld3
namespace Go.Proofs.YtahehpgnemanmaaDoor
open Go.RowKit
set_option linter.unusedVariables false
set_option linter.unusedSimpArgs false

/-- What Parse keeps: the text, its result, the target, the function that takes one. -/
structure TgW (s : ByteArray) (tc : Array Value) (q : Nat) (w W : World) : Prop where
  hq : w.heap.size + 2 ≤ q
  b0 : Bl W w.heap.size 9 #[.string s]
  b1 : Bl W (w.heap.size + 1) 23 #[.int .i64 0, .string ⟨#[]⟩, .string ⟨#[]⟩]
  b2 : Bl W q 23 tc
  b3 : Bl W (q + 1) 52 #[.func (.func 30) #[] #[.pointer (some ⟨q, 0, none⟩)]]
  bel : Below w.heap.size w W
def tgC (fm : Int) (au pa : ByteArray) : Array Value := #[.int .i64 fm, .string au, .string pa]
theorem TgW.below {s : ByteArray} {tc : Array Value} {q : Nat} {w W W2 : World} (h : TgW s tc q w W) (hb : Below W.heap.size W W2) : TgW s tc q w W2 :=
  ⟨h.hq, h.b0.below hb, h.b1.below hb, h.b2.below hb, h.b3.below hb, h.bel.trans (hb.mono h.bel.size)⟩
theorem TgW.drew {s : ByteArray} {tc : Array Value} {q : Nat} {w W : World} (h : TgW s tc q w W) : TgW s tc q w W.drew := h.below ((Below.refl _ _).drew)
theorem TgW.cells {s : ByteArray} {tc : Array Value} {q : Nat} {w W : World} (h : TgW s tc q w W) : W.cell? ⟨w.heap.size, 0, none⟩ = some (.string s) ∧ W.cell? ⟨q + 1, 0, none⟩ = some (.func (.func 30) #[] #[.pointer (some ⟨q, 0, none⟩)]) :=
  ⟨h.b0.cell 0, h.b3.cell 0⟩
theorem tgset3 {w : World} {h : Nat} {r0 r1 r2 : Value} (hd : Bl w h 23 #[r0, r1, r2]) (a b c : Value) : Bl (((w.setCell ⟨h, 0, none⟩ a).setCell ⟨h, 1, none⟩ b).setCell ⟨h, 2, none⟩ c) h 23 #[a, b, c] :=
  ((hd.set 0 a).set 1 b).set 2 c
theorem tgfar3 {w : World} {g h : Nat} {t : TypeId} {cs : Array Value} (hd : Bl w g t cs) (hne : g ≠ h) (a b c : Value) : Bl (((w.setCell ⟨h, 0, none⟩ a).setCell ⟨h, 1, none⟩ b).setCell ⟨h, 2, none⟩ c) g t cs :=
  ((hd.far (p := ⟨h, 0, none⟩) hne a).far (p := ⟨h, 1, none⟩) hne b).far (p := ⟨h, 2, none⟩) hne c
theorem tgbel3 {w0 w : World} {B h : Nat} (hb : Below B w0 w) (hB : B ≤ h) (a b c : Value) : Below B w0 (((w.setCell ⟨h, 0, none⟩ a).setCell ⟨h, 1, none⟩ b).setCell ⟨h, 2, none⟩ c) :=
  ((hb.setCell (p := ⟨h, 0, none⟩) hB a).setCell (p := ⟨h, 1, none⟩) hB b).setCell (p := ⟨h, 2, none⟩) hB c
theorem TgW.set {s : ByteArray} {fm : Int} {au pa : ByteArray} {q : Nat} {w W : World} (h : TgW s (tgC fm au pa) q w W) (a b c : Value) :
    TgW s #[a, b, c] q w (((W.setCell ⟨q, 0, none⟩ a).setCell ⟨q, 1, none⟩ b).setCell ⟨q, 2, none⟩ c) :=
  have := h.hq
  ⟨h.hq, tgfar3 h.b0 (by omega) a b c, tgfar3 h.b1 (by omega) a b c, tgset3 h.b2 a b c, tgfar3 h.b3 (by omega) a b c, tgbel3 h.bel (by omega) a b c⟩
def TgPost (s : ByteArray) (is : Bool) (tc : Array Value) (q : Nat) (w : World) (e : Ending) (w' : World) : Prop := e = .returned (.bool is) ∧ TgW s tc q w w'
set_option maxRecDepth 100000 in
set_option maxHeartbeats 1000000 in
theorem tg_take_yes (s : ByteArray) (fm f0 : Int) (au pa a0 p0 : ByteArray) (q : Nat) (w W : World) (h : TgW s (tgC f0 a0 p0) q w W) :
    Calls Tryd.prog 30 #[.bool true, .int .i64 fm, .string au, .string pa, .pointer (some ⟨q, 0, none⟩)] W (TgPost s true (tgC fm au pa) q w) := by
  have HS := Kp.mk (h.set (.int .i64 fm) (.string au) (.string pa))
  have c0 := h.b2.cell 0
  have c1 := h.b2.cell 1
  have c2 := h.b2.cell 2
  have f0' := h.b2.free 0
  have f1 := h.b2.free 1
  have f2 := h.b2.free 2
  unfold tgC at c0 c1 c2
  simp at c0 c1 c2
  clear h
  go_enter Tryd.func30, Tryd.ntmps30
  go_wp2_with fail
  go_ret
  exact ⟨rfl, HS.out⟩
set_option maxRecDepth 100000 in
set_option maxHeartbeats 1000000 in
theorem tg_take_no (s : ByteArray) (fm : Int) (au pa : ByteArray) (tc : Array Value) (q : Nat) (w W : World) (h : TgW s tc q w W) :
    Calls Tryd.prog 30 #[.bool false, .int .i64 fm, .string au, .string pa, .pointer (some ⟨q, 0, none⟩)] W (TgPost s false tc q w) := by
  have HS := Kp.mk h
  clear h
  go_enter Tryd.func30, Tryd.ntmps30
  go_wp2_with fail
  go_ret
  exact ⟨rfl, HS.out⟩
set_option maxRecDepth 100000 in
set_option maxHeartbeats 1000000 in
theorem tg_placed_any (s : ByteArray) (f0 : Int) (a0 p0 : ByteArray) (q : Nat) (w W : World) (h : TgW s (tgC f0 a0 p0) q w W) (hs : s.size ≤ 1000000) (ha : AscS s) :
    Calls Tryd.prog 31 #[.pointer (some ⟨w.heap.size, 0, none⟩), .pointer (some ⟨q + 1, 0, none⟩)] W (TgPost s (tgOkA s) (if tgOkA s = true then tgC 2 (tgAu s) (tgPa s) else tgC f0 a0 p0) q w) := by
  have H := Kp.mk h
  obtain ⟨c0, c3⟩ := h.cells
  have HSP := Kp.mk (fun w => tg_split_any s w hs ha)
  have HV := Kp.mk (show tgSpl s = if tgAbs s = true then .tuple #[.string (tgAu s), .string (tgPa s), .bool (hsE (tgAu s) == 0)] else .tuple #[.string ⟨#[]⟩, .string ⟨#[]⟩, .bool false] from rfl)
  have HO := Kp.mk (show tgOkA s = (tgAbs s && (hsE (tgAu s) == 0)) from rfl)
  clear h
  generalize tgSpl s = SP at *
  generalize tgAu s = AU at *
  generalize tgPa s = PA at *
  generalize (hsE AU == 0) = eb at *
  generalize tgOkA s = ok at *
  cases hA : tgAbs s
  · rw [hA] at HV HO
    have HV2 := Kp.mk (show SP = .tuple #[.string ⟨#[]⟩, .string ⟨#[]⟩, .bool false] from HV.out)
    have hO2 : ok = false := HO.out
    rw [hO2, if_neg (by simp)]
    clear hA HV HO hO2
    go_enter Tryd.func31, Tryd.ntmps31
    go_wp2_with fail
    refine (HSP.out _).mono ?_
    rintro e w1 ⟨rfl, hb⟩
    rw [HV2.out]
    have H1 := Kp.mk (H.out.below hb)
    obtain ⟨d0, d3⟩ := H1.out.cells
    clear hb c0 c3
    go_wp2_with fail
    refine (tg_take_no s _ _ _ _ q w _ H1.out).mono ?_
    rintro e w2 ⟨rfl, h2⟩
    have H2 := Kp.mk h2
    clear h2
    go_wp2_with fail
    go_ret
    exact ⟨rfl, H2.out⟩
  · rw [hA] at HV HO
    have HV2 := Kp.mk (show SP = .tuple #[.string AU, .string PA, .bool eb] from HV.out)
    have hO2 : ok = eb := HO.out
    rw [hO2]
    clear hA HV HO hO2
    cases eb
    · rw [if_neg (by simp)]
      go_enter Tryd.func31, Tryd.ntmps31
      go_wp2_with fail
      refine (HSP.out _).mono ?_
      rintro e w1 ⟨rfl, hb⟩
      rw [HV2.out]
      have H1 := Kp.mk (H.out.below hb)
      obtain ⟨d0, d3⟩ := H1.out.cells
      clear hb c0 c3
      go_wp2_with fail
      refine (tg_take_no s _ _ _ _ q w _ H1.out).mono ?_
      rintro e w2 ⟨rfl, h2⟩
      have H2 := Kp.mk h2
      clear h2
      go_wp2_with fail
      go_ret
      exact ⟨rfl, H2.out⟩
    · rw [if_pos rfl]
      go_enter Tryd.func31, Tryd.ntmps31
      go_wp2_with fail
      refine (HSP.out _).mono ?_
      rintro e w1 ⟨rfl, hb⟩
      rw [HV2.out]
      have H1 := Kp.mk (H.out.below hb)
      obtain ⟨d0, d3⟩ := H1.out.cells
      clear hb c0 c3
      go_wp2_with fail
      refine (tg_take_yes s _ _ _ _ _ _ q w _ H1.out).mono ?_
      rintro e w2 ⟨rfl, h2⟩
      have H2 := Kp.mk h2
      clear h2
      go_wp2_with fail
      go_ret
      exact ⟨rfl, H2.out⟩
theorem visB_lt {s : ByteArray} (h : visibleB s = true) : AscS s := fun j hj => by
  unfold visibleB allB at h
  rw [Bool.and_eq_true] at h
  have := List.all_eq_true.1 h.2 _ (List.getElem_mem (by rw [← ba_size]; exact hj : j < s.data.toList.length))
  rw [bt_list s j hj] at this
  unfold visB at this
  rw [Bool.and_eq_true, decide_eq_true_eq, decide_eq_true_eq] at this
  omega
def tgHash (s : ByteArray) : Bool := s.data.toList.any (fun c => c.toNat == 35)
theorem tg_hash_any (s : ByteArray) (w : World) : Calls Tryd.prog 29 #[.string s, .string ⟨#[35]⟩] w fun e w' => e = .returned (.bool (tgHash s)) ∧ w = w' := by
  refine (Tryd.strings_Contains_one s 35 w).mono fun _ _ h => ⟨?_, h.2.symm⟩
  rw [h.1, idxB_mem]
  congr 2
  unfold tgHash
  congr 1
  funext d
  rw [Bool.eq_iff_iff, beq_iff_eq, beq_iff_eq]
  exact ⟨fun h => by rw [h]; rfl, fun h => UInt8.toNat_inj.1 (show d.toNat = (35 : UInt8).toNat from h)⟩
/-- Ahead of the functions: the text and the result. -/
structure TgX (s : ByteArray) (w W : World) : Prop where
  b0 : Bl W w.heap.size 9 #[.string s]
  b1 : Bl W (w.heap.size + 1) 23 #[.int .i64 0, .string ⟨#[]⟩, .string ⟨#[]⟩]
  bel : Below w.heap.size w W
theorem TgX.new (s : ByteArray) (w : World) : TgX s w ((w.alloc (.cells #[.string s] 9)).alloc (.cells #[.int .i64 0, .string ⟨#[]⟩, .string ⟨#[]⟩] 23)) := by
  refine ⟨(Bl.new w _ _).alloc _, ?_, ((Below.refl _ _).alloc (Nat.le_refl _) _).alloc (by simp) _⟩
  have := Bl.new (w.alloc (.cells #[.string s] 9)) 23 #[.int .i64 0, .string ⟨#[]⟩, .string ⟨#[]⟩]
  rwa [World.size_alloc] at this
theorem TgX.below {s : ByteArray} {w W W2 : World} (h : TgX s w W) (hb : Below W.heap.size W W2) : TgX s w W2 :=
  ⟨h.b0.below hb, h.b1.below hb, h.bel.trans (hb.mono h.bel.size)⟩
theorem TgX.size {s : ByteArray} {w W : World} (h : TgX s w W) : w.heap.size + 2 ≤ W.heap.size := h.b1.lt
/-- The result's cells, to be written. -/
theorem tg_res {h : Nat} {W : World} {c0 c1 c2 : Value} (hb : Bl W h 23 #[c0, c1, c2]) : W.cell? ⟨h, 0, none⟩ = some c0 ∧ W.cell? ⟨h, 1, none⟩ = some c1 ∧ W.cell? ⟨h, 2, none⟩ = some c2 ∧
    W.frozen? ⟨h, 0, none⟩ = false ∧ W.frozen? ⟨h, 1, none⟩ = false ∧ W.frozen? ⟨h, 2, none⟩ = false ∧ h < W.heap.size := ⟨hb.cell 0, hb.cell 1, hb.cell 2, hb.free 0, hb.free 1, hb.free 2, hb.lt⟩
theorem TgX.more {s : ByteArray} {w W : World} (h : TgX s w W) : TgW s (tgC 0 ⟨#[]⟩ ⟨#[]⟩) W.heap.size w ((W.alloc (.cells #[.int .i64 0, .string ⟨#[]⟩, .string ⟨#[]⟩] 23)).alloc (.cells #[.func (.func 30) #[] #[.pointer (some ⟨W.heap.size, 0, none⟩)]] 52)) := by
  refine ⟨h.size, (h.b0.alloc _).alloc _, (h.b1.alloc _).alloc _, (Bl.new W _ _).alloc _, ?_, (h.bel.alloc h.bel.size _).alloc (by simp; have := h.bel.size; omega) _⟩
  have := Bl.new (W.alloc (.cells #[.int .i64 0, .string ⟨#[]⟩, .string ⟨#[]⟩] 23)) 52 #[.func (.func 30) #[] #[.pointer (some ⟨W.heap.size, 0, none⟩)]]
  rwa [World.size_alloc] at this
def RetTg (r : TgR) (w : World) (e : Ending) (w' : World) : Prop := e = .returned (.tuple #[.agg #[.int .i64 r.fm, .string r.au, .string r.pa], .int .i64 r.e]) ∧ Below w.heap.size w w'
theorem tg_bad_or (s : ByteArray) : tgBad s = (!visibleB s || tgHash s) := rfl
set_option maxRecDepth 100000 in
set_option maxHeartbeats 4000000 in
theorem tg_parse_bad (m s : ByteArray) (w : World) (hm : m.size ≤ 1000000) (hs : s.size ≤ 1000000) (hb : s.size = 0 ∨ tgBad s = true) : Calls Tryd.prog 8 #[.string m, .string s] w (RetTg (tgR m s) w) := by
  by_cases h0 : s.size = 0
  · obtain rfl := hs_emp (x := s) (by omega)
    have HR := Kp.mk (show tgR m ⟨#[]⟩ = tgNo 2 from rfl)
    go_enter Tryd.func8, Tryd.ntmps8
    go_wp2_with fail
    exact bodyPost_ret (v := .tuple #[.agg #[.int .i64 0, .string ⟨#[]⟩, .string ⟨#[]⟩], .int .i64 2]) (by simp [results, Tryd.results8, go_sem]) rfl ⟨by rw [HR.out]; rfl, ((Below.refl _ _).alloc (Nat.le_refl _) _).alloc (by simp) _⟩
  · have hb : tgBad s = true := hb.resolve_left h0
    obtain ⟨n1, n2⟩ := hs_nemp (x := s) (by omega)
    have HVI := Kp.mk (fun w => oct_visible_any s w (by unfold maxLen; omega))
    have HHA := Kp.mk (fun w => tg_hash_any s w)
    have HBO := Kp.mk (show (!visibleB s || tgHash s) = true from (tg_bad_or s).symm.trans hb)
    have HR := Kp.mk (show tgR m s = tgNo 11 by unfold tgR; rw [if_neg h0, if_pos hb])
    have X0 := Kp.mk (TgX.new s w)
    clear hb
    cases hv : visibleB s
    · rw [hv] at HVI
      clear hv HBO
      go_enter Tryd.func8, Tryd.ntmps8
      go_wp2_with fail
      refine (HVI.out _).mono ?_
      rintro e w1 ⟨rfl, hb⟩
      have X1 := Kp.mk (X0.out.below hb)
      obtain ⟨c0, c1, c2, f0, f1, f2, hl⟩ := tg_res X1.out.b1
      have HBE := Kp.mk (tgbel3 X1.out.bel (h := w.heap.size + 1) (by omega) (.int .i64 0) (.string ⟨#[]⟩) (.string ⟨#[]⟩))
      clear hb
      go_wp2_with fail
      exact bodyPost_ret (v := .tuple #[.agg #[.int .i64 0, .string ⟨#[]⟩, .string ⟨#[]⟩], .int .i64 11]) (by simp [results, Tryd.results8, go_sem, c0, c1, c2, hl]) rfl ⟨by rw [HR.out]; rfl, HBE.out⟩
    · rw [hv] at HVI HBO
      have HH := Kp.mk (show tgHash s = true from HBO.out)
      rw [HH.out] at HHA
      clear hv HBO HH
      go_enter Tryd.func8, Tryd.ntmps8
      go_wp2_with fail
      refine (HVI.out _).mono ?_
      rintro e w1 ⟨rfl, hb⟩
      have X1 := Kp.mk (X0.out.below hb)
      have d0 := X1.out.b0.cell 0
      clear hb
      simp at d0
      go_wp2_with fail
      refine (HHA.out _).mono ?_
      rintro e w2 ⟨rfl, rfl⟩
      obtain ⟨c0, c1, c2, f0, f1, f2, hl⟩ := tg_res X1.out.b1
      have HBE := Kp.mk (tgbel3 X1.out.bel (h := w.heap.size + 1) (by omega) (.int .i64 0) (.string ⟨#[]⟩) (.string ⟨#[]⟩))
      go_wp2_with fail
      exact bodyPost_ret (v := .tuple #[.agg #[.int .i64 0, .string ⟨#[]⟩, .string ⟨#[]⟩], .int .i64 11]) (by simp [results, Tryd.results8, go_sem, c0, c1, c2, hl]) rfl ⟨by rw [HR.out]; rfl, HBE.out⟩
end Go.Proofs.YtahehpgnemanmaaDoor
