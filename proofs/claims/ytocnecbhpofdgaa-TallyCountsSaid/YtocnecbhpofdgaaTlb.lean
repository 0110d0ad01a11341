/- Tally (layer 49): a tally in memory: Of, Add (bin/mktlb.py). -/
import Derived.Test.YtocnecbhpofdgaaGb
import Derived.Test.YtocnecbhpofdgaaProg
import Derived.Test.YtocnecbhpofdgaaPb
import Derived.Maps.RangeWalk
import Derived.Maps.OwnOps
import Derived.Deep.QuietTactic
import Derived.Deep.DeepCutAuto
namespace Go.Proofs.Ytocnecbhpofdgaa
open Go.RowKit
set_option linter.unusedVariables false
set_option linter.unusedSimpArgs false

theorem Try.zeroTI (w : World) : (zeroValue 3).run Try.prog w = .ok (.int .i64 0) w := by kernel_rfl
theorem wrap_idT (x : Int) (h1 : -9223372036854775808 ≤ x) (h2 : x < 9223372036854775808) : IntKind.i64.wrap x = x := by
  simp [IntKind.wrap, IntKind.signed, IntKind.bits, wrap64]
  split <;> omega
theorem int_wfT {x : Int} (h1 : -9223372036854775808 ≤ x) (h2 : x < 9223372036854775808) : (Lit.int .i64 x).wf = true := by
  simp [Lit.wf, IntKind.min, IntKind.max, IntKind.signed, IntKind.bits]
  omega
theorem keyOf_strT {P : Program} {k : TypeId} (hk : P.underlying k = some .string) {x : ByteArray} (hx : x.size ≤ maxLen) : keyOf P k (.string x) = some (.string x.data.toList) := by
  simp [keyOf, hk, mapKey]
  exact hx
/-- What a count comes to. -/
def tsum (c n : Int) : Int := min (c + min (max n 0) 1099511627776) 1099511627776
theorem wrap64_idT (x : Int) (h1 : -9223372036854775808 ≤ x) (h2 : x < 9223372036854775808) : wrap64 x = x := by
  simp [wrap64]
  omega
theorem tsum_in (c n : Int) (h : 0 ≤ c) : 0 ≤ tsum c n ∧ tsum c n ≤ 1099511627776 := by unfold tsum; omega
/-- How often each is counted, as the map's datum holds it. -/
def FTs (D : DataW Unit) (F : ByteArray → Int) : Prop := ∀ x : ByteArray, x.size ≤ maxLen → D.atKey (.string x.data.toList) (.lit (.int .i64 0)) = .lit (.int .i64 (F x))
theorem FTs.start : FTs (.map []) (fun _ => 0) := fun _ _ => rfl
def adFs (F : ByteArray → Int) (x : ByteArray) (v : Int) : ByteArray → Int := fun y => if y = x then v else F y
theorem lits_ne {x y : ByteArray} (h : x ≠ y) : (.string x.data.toList : Lit) ≠ .string y.data.toList := fun e => h (by
  injection e with e
  exact ba_ext e)
theorem FTs.put {D : DataW Unit} {F : ByteArray → Int} (h : FTs D F) (hm : Maps.IsMap D) (x : ByteArray) (v : Int) (hk : WideAt.IsKeyLit (.string x.data.toList)) : FTs (D.put (.string x.data.toList) (.lit (.int .i64 v))) (adFs F x v) := by
  intro y hw
  unfold adFs
  by_cases e : y = x
  · subst e
    rw [if_pos rfl]
    exact Maps.atKey_put_same hm hk _ _
  · rw [if_neg e, Maps.atKey_put_other (lits_ne e)]
    exact h y hw
theorem Try.keyTs : Maps.Keyed Try.prog 9 := Maps.string_keyed Try.underlying9
theorem isKeys (x : ByteArray) (hx : x.size ≤ maxLen) : WideAt.IsKeyLit (.string x.data.toList) := by first | trivial | exact hx | simp [WideAt.IsKeyLit]
theorem own_blkTs {w w' : World} {m n : Nat} {D : DataW Unit} (h : w.ownsMap (H := Unit) Try.prog 9 (plainElem Try.prog 3) m n D) (hk : w'.heap[m]? = w.heap[m]?) : w'.ownsMap (H := Unit) Try.prog 9 (plainElem Try.prog 3) m n D := by
  obtain ⟨es, clock, hb, rest⟩ := h
  exact ⟨es, clock, hk.trans hb, rest⟩
theorem own_leTs {w : World} {m n n' : Nat} {D : DataW Unit} (h : w.ownsMap (H := Unit) Try.prog 9 (plainElem Try.prog 3) m n D) (hn : n ≤ n') : w.ownsMap (H := Unit) Try.prog 9 (plainElem Try.prog 3) m n' D := by
  obtain ⟨es, clock, hb, F, hs, e⟩ := h
  exact ⟨es, clock, hb, F, Nat.le_trans hs hn, e⟩
theorem own_ismapTs {w : World} {m n : Nat} {D : DataW Unit} (h : w.ownsMap (H := Unit) Try.prog 9 (plainElem Try.prog 3) m n D) : Maps.IsMap D := by
  obtain ⟨es, clock, hb, F, hs, rfl⟩ := h
  exact ⟨_, rfl⟩
theorem looks_run (w : World) (m n : Nat) (D : DataW Unit) (F : ByteArray → Int) (hown : w.ownsMap (H := Unit) Try.prog 9 (plainElem Try.prog 3) m n D) (hF : FTs D F) (x : ByteArray) (hw : x.size ≤ maxLen) :
    (Instr.lookup 69 (.map (some m)) (.string x) false).run Try.prog w = .ok (.int .i64 (F x)) w := by
  obtain ⟨c, h1, h2, -⟩ := hown.lookup_int Try.keyTs Try.underlying69 Try.underlying3 (Try.zeroTI _) (keyOf_strT Try.underlying9 hw)
  rw [hF x hw] at h2
  cases h2
  exact h1
theorem looks_nil (w : World) (x : ByteArray) (hw : x.size ≤ maxLen) : (Instr.lookup 69 (.map none) (.string x) false).run Try.prog w = .ok (.int .i64 0) w := by
  have hc := Try.keyTs.check w true (keyOf_strT Try.underlying9 hw)
  have hf : (Instr.findKey 9 (.string x) []).run Try.prog w = .ok none w := by
    rcases Try.keyTs.find w (keyOf_strT Try.underlying9 hw) [] (by simp) with ⟨hf, -⟩ | ⟨j, e, -, h, -⟩
    · exact hf
    · simp at h
  have hz := Try.zeroTI w
  simp [Instr.lookup, run_underlying Try.underlying69, Sem.run_bind, Sem.run_pure, hc, hf, hz, Result.andThen]
/-- A tally, at b; whatever it holds lies behind B; its map has at most n entries. -/
structure Tys (B b n : Nat) (F : ByteArray → Int) (w : World) : Prop where
  hB : B ≤ b
  le : ∀ x, 0 ≤ F x ∧ F x ≤ 1099511627776
  hb : ∃ mo : Option Nat, w.heap[b]? = some (.cells #[.map mo, .string ByteArray.empty, .int .i64 0] 71 (0, 0)) ∧ ((mo = none ∧ F = fun _ => 0) ∨ ∃ m D, mo = some m ∧ m ≠ b ∧ B ≤ m ∧ w.ownsMap (H := Unit) Try.prog 9 (plainElem Try.prog 3) m n D ∧ FTs D F)
theorem Tys.below {B b n : Nat} {F : ByteArray → Int} {w w' : World} (h : Tys B b n F w) (hb : Below w.heap.size w w') : Tys B b n F w' := by
  obtain ⟨h1, h2, mo, h3, h4⟩ := h
  refine ⟨h1, h2, mo, (hb.block _ (blk_lt h3)).trans h3, ?_⟩
  rcases h4 with h4 | ⟨m, D, e1, e2, e3, e4, e5⟩
  · exact .inl h4
  · exact .inr ⟨m, D, e1, e2, e3, own_blkTs e4 (hb.block _ e4.lt), e5⟩
set_option maxRecDepth 100000 in
set_option maxHeartbeats 1000000 in
theorem tofs_any (B b n : Nat) (F : ByteArray → Int) (x : ByteArray) (w : World) (h : Tys B b n F w) (hx : x.size ≤ maxLen) :
    Calls Try.prog 58 #[.pointer (some ⟨b, 0, none⟩), .string x] w fun e w' => e = .returned (.int .i64 (F x)) ∧ w = w' := by
  obtain ⟨-, -, mo, h3, h4⟩ := h
  have c0 := blk_cell (i := 0) h3 rfl
  clear h3
  rcases h4 with ⟨rfl, rfl⟩ | ⟨m, D, rfl, -, -, ho, hf⟩
  · have P := looks_nil w x hx
    clear hx
    go_enter Try.func58, Try.ntmps58
    go_wp2_with fail
    go_ret
    exact ⟨rfl, rfl⟩
  · have P := looks_run w m n D F ho hf x hx
    clear hx hf ho
    generalize F x = Fx at *
    go_enter Try.func58, Try.ntmps58
    go_wp2_with fail
    go_ret
    exact ⟨rfl, rfl⟩
set_option maxRecDepth 100000 in
set_option maxHeartbeats 2000000 in
theorem tadds_any (B b n : Nat) (F : ByteArray → Int) (x : ByteArray) (k : Int) (w : World) (h : Tys B b n F w) (hx : x.size ≤ maxLen) (hn : n ≤ 100000) (hB : B ≤ w.heap.size) :
    Calls Try.prog 33 #[.pointer (some ⟨b, 0, none⟩), .string x, .int .i64 k] w fun e w' => e = .returned (.int .i64 (tsum (F x) k)) ∧ Tys B b (n + 1) (adFs F x (tsum (F x) k)) w' ∧ Below B w w' := by
  have HOF := Kp.mk (tofs_any B b n F x w h hx)
  have hle := h.le x
  have hts := tsum_in (F x) k hle.1
  have HLE := Kp.mk (show ∀ y, 0 ≤ adFs F x (tsum (F x) k) y ∧ adFs F x (tsum (F x) k) y ≤ 1099511627776 from fun y => by
    unfold adFs
    split
    · exact hts
    · exact h.le y)
  have HLX := Kp.mk hle
  have hk0 : tsum (F x) k ≤ 1099511627776 := hts.2
  have hk1 : 0 ≤ tsum (F x) k := hts.1
  have HB0 := Kp.mk h.hB
  have hwfS : (Lit.int .i64 (tsum (F x) k)).wf = true := int_wfT (by omega) (by omega)
  have HKL := Kp.mk (isKeys x hx)
  have HX := Kp.mk hx
  have hkm : n < maxLen := by unfold maxLen; omega
  have hkm0 : 0 < maxLen := by unfold maxLen; omega
  obtain ⟨-, -, mo, h3, h4⟩ := h
  have HBK := Kp.mk h3
  have c0 := blk_cell (i := 0) h3 rfl
  have f0 := blk_free (i := 0) h3
  have hbl := blk_lt h3
  clear h3 hle hts hk0 hk1
  generalize hS : tsum (F x) k = S at *
  have HTS := Kp.mk hS
  clear hS
  have hmk : (Instr.makeMap 69 none).run Try.prog w = .ok (.map (some w.heap.size)) (w.alloc (.map #[] 0)) := by kernel_rfl
  go_enter Try.func33, Try.ntmps33
  go_upto_region 3 with fail
  go_cut [7] (fun s wr => s = .int .i64 S ∧ w = wr)
  case first =>
    have hl0 := HLX.out.1
    have hl1 := HLX.out.2
    clear HLX h4 HLE
    generalize F x = Fx at *
    by_cases hk1 : k < 0
    · have q1 : wrap64 Fx = Fx := wrap64_idT _ (by omega) (by omega)
      have q2 : ¬ 1099511627776 < Fx := by omega
      go_wp2_with fail
      refine HOF.out.mono ?_
      rintro e w1 ⟨rfl, rfl⟩
      go_wp2_with fail
      go_meet
      refine ⟨?_, rfl⟩
      congr 1
      rw [← HTS.out]
      unfold tsum
      omega
    · by_cases hk2 : 1099511627776 < k
      · have q1 : wrap64 (Fx + 1099511627776) = Fx + 1099511627776 := wrap64_idT _ (by omega) (by omega)
        by_cases hs : 1099511627776 < Fx + 1099511627776
        · go_wp2_with fail
          refine HOF.out.mono ?_
          rintro e w1 ⟨rfl, rfl⟩
          go_wp2_with fail
          go_meet
          refine ⟨?_, rfl⟩
          congr 1
          rw [← HTS.out]
          unfold tsum
          omega
          
        · go_wp2_with fail
          refine HOF.out.mono ?_
          rintro e w1 ⟨rfl, rfl⟩
          go_wp2_with fail
          go_meet
          refine ⟨?_, rfl⟩
          congr 1
          rw [← HTS.out]
          unfold tsum
          omega
          
      · have q1 : wrap64 (Fx + k) = Fx + k := wrap64_idT _ (by omega) (by omega)
        by_cases hs : 1099511627776 < Fx + k
        · go_wp2_with fail
          refine HOF.out.mono ?_
          rintro e w1 ⟨rfl, rfl⟩
          go_wp2_with fail
          go_meet
          refine ⟨?_, rfl⟩
          congr 1
          rw [← HTS.out]
          unfold tsum
          omega
          
        · go_wp2_with fail
          refine HOF.out.mono ?_
          rintro e w1 ⟨rfl, rfl⟩
          go_wp2_with fail
          go_meet
          refine ⟨?_, rfl⟩
          congr 1
          rw [← HTS.out]
          unfold tsum
          omega
          
  case rest =>
  obtain ⟨rfl, rfl⟩ := hcut
  clear HOF hx HTS HLX
  have e0 : (Go.binOp .eql 69 (.map none) (.map none)).run Try.prog w = .ok (.bool true) w := by kernel_rfl
  rcases h4 with ⟨rfl, rfl⟩ | ⟨m, D, rfl, hne, hBm, ho, hf⟩
  · have hne : ¬ b = w.heap.size := by omega
    have hne2 : ¬ w.heap.size = b := by omega
    have hs1 : (w.setCell ⟨b, 0, none⟩ (.map (some w.heap.size))).heap.size = w.heap.size := by simp
    have ho1 := World.ownsMap_made (H := Unit) (w.setCell ⟨b, 0, none⟩ (.map (some w.heap.size))) Try.prog 9 (plainElem Try.prog 3)
    rw [hs1] at ho1
    have HO1 := Kp.mk ho1
    have hb1 : ((w.setCell ⟨b, 0, none⟩ (.map (some w.heap.size))).alloc (.map #[] 0)).heap[b]? = some (.cells #[.map (some w.heap.size), .string ByteArray.empty, .int .i64 0] 71 (0, 0)) := blk_alloc (blk_set HBK.out _)
    clear ho1 hs1
    have HB1 := Kp.mk hb1
    have c1 := blk_cell (i := 0) hb1 rfl
    have fa := blk_free (i := 0) (blk_alloc (o2 := .map #[] 0) HBK.out)
    have hbl2 := blk_lt hb1
    have HW := Kp.mk (((Below.refl B w).setCell (p := ⟨b, 0, none⟩) HB0.out (.map (some w.heap.size))).alloc (by simpa using hB) (.map #[] 0))
    have HSZ := Kp.mk hB
    clear hb1
    go_wp2_with (first
      | (at_mapUpdate; refine wpList_mapUpdate_own _ rfl _ _ _ 69 rfl 9 3 Try.keyTs Try.underlying69 _ w.heap.size 0 (.map []) rfl HO1.out hkm0 _ _ _ rfl rfl (keyOf_strT Try.underlying9 HX.out) _ _ (plainElem_int Try.underlying3 hwfS) ?_; intro w2 ho2 hg2; have HO2 := Kp.mk ho2; have HG2 := Kp.mk hg2; clear ho2 hg2)
      | fail)
    go_ret
    refine ⟨rfl, ⟨HB0.out, HLE.out, some w.heap.size, (HG2.out.block _ hbl2 (fun e => hne (by injection e))).trans HB1.out, .inr ⟨w.heap.size, _, rfl, hne2, HSZ.out, own_leTs HO2.out (by omega), FTs.put FTs.start Maps.isMap_empty x S HKL.out⟩⟩, ?_⟩
    exact HW.out.grown HG2.out (Nat.le_trans HSZ.out HW.out.size) fun k hk => by cases hk; exact HSZ.out
  · have HO := Kp.mk ho
    have HF := Kp.mk hf
    have HM := Kp.mk (And.intro hne hBm)
    have HSZ := Kp.mk hB
    have e1 : (Go.binOp .eql 69 (.map (some m)) (.map none)).run Try.prog w = .ok (.bool false) w := by kernel_rfl
    clear ho hf hBm
    go_wp2_with (first
      | (at_mapUpdate; refine wpList_mapUpdate_own _ rfl _ _ _ 69 rfl 9 3 Try.keyTs Try.underlying69 _ m n D rfl HO.out hkm _ _ _ rfl rfl (keyOf_strT Try.underlying9 HX.out) _ _ (plainElem_int Try.underlying3 hwfS) ?_; intro w2 ho2 hg2; have HO2 := Kp.mk ho2; have HG2 := Kp.mk hg2; clear ho2 hg2)
      | fail)
    go_ret
    refine ⟨rfl, ⟨HB0.out, HLE.out, some m, (HG2.out.block _ hbl (fun e => HM.out.1 (by injection e with e; exact e.symm))).trans HBK.out, .inr ⟨m, _, rfl, HM.out.1, HM.out.2, HO2.out, FTs.put HF.out (own_ismapTs HO.out) x S HKL.out⟩⟩, ?_⟩
    exact (Below.refl B w).grown HG2.out HSZ.out fun k hk => by cases hk; exact HM.out.2
/-- How often each is counted, as the map's datum holds it. -/
def FTi (D : DataW Unit) (F : Int → Int) : Prop := ∀ x : Int, (Lit.int .i64 x).wf = true → D.atKey (.int .i64 x) (.lit (.int .i64 0)) = .lit (.int .i64 (F x))
theorem FTi.start : FTi (.map []) (fun _ => 0) := fun _ _ => rfl
def adFi (F : Int → Int) (x : Int) (v : Int) : Int → Int := fun y => if y = x then v else F y
theorem liti_ne {x y : Int} (h : x ≠ y) : (.int .i64 x : Lit) ≠ .int .i64 y := fun e => h (by
  injection e with e
  )
theorem FTi.put {D : DataW Unit} {F : Int → Int} (h : FTi D F) (hm : Maps.IsMap D) (x : Int) (v : Int) (hk : WideAt.IsKeyLit (.int .i64 x)) : FTi (D.put (.int .i64 x) (.lit (.int .i64 v))) (adFi F x v) := by
  intro y hw
  unfold adFi
  by_cases e : y = x
  · subst e
    rw [if_pos rfl]
    exact Maps.atKey_put_same hm hk _ _
  · rw [if_neg e, Maps.atKey_put_other (liti_ne e)]
    exact h y hw
theorem Try.keyTi : Maps.Keyed Try.prog 3 := Maps.int_keyed Try.underlying3
theorem isKeyi (x : Int) (hx : (Lit.int .i64 x).wf = true) : WideAt.IsKeyLit (.int .i64 x) := by first | trivial | exact hx | simp [WideAt.IsKeyLit]
theorem own_blkTi {w w' : World} {m n : Nat} {D : DataW Unit} (h : w.ownsMap (H := Unit) Try.prog 3 (plainElem Try.prog 3) m n D) (hk : w'.heap[m]? = w.heap[m]?) : w'.ownsMap (H := Unit) Try.prog 3 (plainElem Try.prog 3) m n D := by
  obtain ⟨es, clock, hb, rest⟩ := h
  exact ⟨es, clock, hk.trans hb, rest⟩
theorem own_leTi {w : World} {m n n' : Nat} {D : DataW Unit} (h : w.ownsMap (H := Unit) Try.prog 3 (plainElem Try.prog 3) m n D) (hn : n ≤ n') : w.ownsMap (H := Unit) Try.prog 3 (plainElem Try.prog 3) m n' D := by
  obtain ⟨es, clock, hb, F, hs, e⟩ := h
  exact ⟨es, clock, hb, F, Nat.le_trans hs hn, e⟩
theorem own_ismapTi {w : World} {m n : Nat} {D : DataW Unit} (h : w.ownsMap (H := Unit) Try.prog 3 (plainElem Try.prog 3) m n D) : Maps.IsMap D := by
  obtain ⟨es, clock, hb, F, hs, rfl⟩ := h
  exact ⟨_, rfl⟩
theorem looki_run (w : World) (m n : Nat) (D : DataW Unit) (F : Int → Int) (hown : w.ownsMap (H := Unit) Try.prog 3 (plainElem Try.prog 3) m n D) (hF : FTi D F) (x : Int) (hw : (Lit.int .i64 x).wf = true) :
    (Instr.lookup 46 (.map (some m)) (.int .i64 x) false).run Try.prog w = .ok (.int .i64 (F x)) w := by
  obtain ⟨c, h1, h2, -⟩ := hown.lookup_int Try.keyTi Try.underlying46 Try.underlying3 (Try.zeroTI _) (Maps.keyOf_int_mk Try.underlying3 hw)
  rw [hF x hw] at h2
  cases h2
  exact h1
theorem looki_nil (w : World) (x : Int) (hw : (Lit.int .i64 x).wf = true) : (Instr.lookup 46 (.map none) (.int .i64 x) false).run Try.prog w = .ok (.int .i64 0) w := by
  have hc := Try.keyTi.check w true (Maps.keyOf_int_mk Try.underlying3 hw)
  have hf : (Instr.findKey 3 (.int .i64 x) []).run Try.prog w = .ok none w := by
    rcases Try.keyTi.find w (Maps.keyOf_int_mk Try.underlying3 hw) [] (by simp) with ⟨hf, -⟩ | ⟨j, e, -, h, -⟩
    · exact hf
    · simp at h
  have hz := Try.zeroTI w
  simp [Instr.lookup, run_underlying Try.underlying46, Sem.run_bind, Sem.run_pure, hc, hf, hz, Result.andThen]
/-- A tally, at b; whatever it holds lies behind B; its map has at most n entries. -/
structure Tyi (B b n : Nat) (F : Int → Int) (w : World) : Prop where
  hB : B ≤ b
  le : ∀ x, 0 ≤ F x ∧ F x ≤ 1099511627776
  hb : ∃ mo : Option Nat, w.heap[b]? = some (.cells #[.map mo, .int .i64 0, .int .i64 0] 48 (0, 0)) ∧ ((mo = none ∧ F = fun _ => 0) ∨ ∃ m D, mo = some m ∧ m ≠ b ∧ B ≤ m ∧ w.ownsMap (H := Unit) Try.prog 3 (plainElem Try.prog 3) m n D ∧ FTi D F)
theorem Tyi.below {B b n : Nat} {F : Int → Int} {w w' : World} (h : Tyi B b n F w) (hb : Below w.heap.size w w') : Tyi B b n F w' := by
  obtain ⟨h1, h2, mo, h3, h4⟩ := h
  refine ⟨h1, h2, mo, (hb.block _ (blk_lt h3)).trans h3, ?_⟩
  rcases h4 with h4 | ⟨m, D, e1, e2, e3, e4, e5⟩
  · exact .inl h4
  · exact .inr ⟨m, D, e1, e2, e3, own_blkTi e4 (hb.block _ e4.lt), e5⟩
set_option maxRecDepth 100000 in
set_option maxHeartbeats 1000000 in
theorem tofi_any (B b n : Nat) (F : Int → Int) (x : Int) (w : World) (h : Tyi B b n F w) (hx : (Lit.int .i64 x).wf = true) :
    Calls Try.prog 17 #[.pointer (some ⟨b, 0, none⟩), .int .i64 x] w fun e w' => e = .returned (.int .i64 (F x)) ∧ w = w' := by
  obtain ⟨-, -, mo, h3, h4⟩ := h
  have c0 := blk_cell (i := 0) h3 rfl
  clear h3
  rcases h4 with ⟨rfl, rfl⟩ | ⟨m, D, rfl, -, -, ho, hf⟩
  · have P := looki_nil w x hx
    clear hx
    go_enter Try.func17, Try.ntmps17
    go_wp2_with fail
    go_ret
    exact ⟨rfl, rfl⟩
  · have P := looki_run w m n D F ho hf x hx
    clear hx hf ho
    generalize F x = Fx at *
    go_enter Try.func17, Try.ntmps17
    go_wp2_with fail
    go_ret
    exact ⟨rfl, rfl⟩
set_option maxRecDepth 100000 in
set_option maxHeartbeats 2000000 in
theorem taddi_keep (B b n : Nat) (F : Int → Int) (x : Int) (k : Int) (w : World) (h : Tyi B b n F w) (hx : (Lit.int .i64 x).wf = true) (hn : n ≤ 100000) (hB : B ≤ w.heap.size) :
    Calls Try.prog 16 #[.pointer (some ⟨b, 0, none⟩), .int .i64 x, .int .i64 k] w fun e w' => e = .returned (.int .i64 (tsum (F x) k)) ∧ Tyi B b (n + 1) (adFi F x (tsum (F x) k)) w' ∧ Below B w w' ∧ ∀ q, q < w.heap.size → q ≠ b → (∀ es c, w.heap[q]? ≠ some (.map es c)) → w'.heap[q]? = w.heap[q]? := by
  have HOF := Kp.mk (tofi_any B b n F x w h hx)
  have hle := h.le x
  have hts := tsum_in (F x) k hle.1
  have HLE := Kp.mk (show ∀ y, 0 ≤ adFi F x (tsum (F x) k) y ∧ adFi F x (tsum (F x) k) y ≤ 1099511627776 from fun y => by
    unfold adFi
    split
    · exact hts
    · exact h.le y)
  have HLX := Kp.mk hle
  have hk0 : tsum (F x) k ≤ 1099511627776 := hts.2
  have hk1 : 0 ≤ tsum (F x) k := hts.1
  have HB0 := Kp.mk h.hB
  have hwfS : (Lit.int .i64 (tsum (F x) k)).wf = true := int_wfT (by omega) (by omega)
  have HKL := Kp.mk (isKeyi x hx)
  have HX := Kp.mk hx
  have hkm : n < maxLen := by unfold maxLen; omega
  have hkm0 : 0 < maxLen := by unfold maxLen; omega
  obtain ⟨-, -, mo, h3, h4⟩ := h
  have HBK := Kp.mk h3
  have c0 := blk_cell (i := 0) h3 rfl
  have f0 := blk_free (i := 0) h3
  have hbl := blk_lt h3
  clear h3 hle hts hk0 hk1
  generalize hS : tsum (F x) k = S at *
  have HTS := Kp.mk hS
  clear hS
  have hmk : (Instr.makeMap 46 none).run Try.prog w = .ok (.map (some w.heap.size)) (w.alloc (.map #[] 0)) := by kernel_rfl
  go_enter Try.func16, Try.ntmps16
  go_upto_region 3 with fail
  go_cut [7] (fun s wr => s = .int .i64 S ∧ w = wr)
  case first =>
    have hl0 := HLX.out.1
    have hl1 := HLX.out.2
    clear HLX h4 HLE
    generalize F x = Fx at *
    by_cases hk1 : k < 0
    · have q1 : wrap64 Fx = Fx := wrap64_idT _ (by omega) (by omega)
      have q2 : ¬ 1099511627776 < Fx := by omega
      go_wp2_with fail
      refine HOF.out.mono ?_
      rintro e w1 ⟨rfl, rfl⟩
      go_wp2_with fail
      go_meet
      refine ⟨?_, rfl⟩
      congr 1
      rw [← HTS.out]
      unfold tsum
      omega
    · by_cases hk2 : 1099511627776 < k
      · have q1 : wrap64 (Fx + 1099511627776) = Fx + 1099511627776 := wrap64_idT _ (by omega) (by omega)
        by_cases hs : 1099511627776 < Fx + 1099511627776
        · go_wp2_with fail
          refine HOF.out.mono ?_
          rintro e w1 ⟨rfl, rfl⟩
          go_wp2_with fail
          go_meet
          refine ⟨?_, rfl⟩
          congr 1
          rw [← HTS.out]
          unfold tsum
          omega
          
        · go_wp2_with fail
          refine HOF.out.mono ?_
          rintro e w1 ⟨rfl, rfl⟩
          go_wp2_with fail
          go_meet
          refine ⟨?_, rfl⟩
          congr 1
          rw [← HTS.out]
          unfold tsum
          omega
          
      · have q1 : wrap64 (Fx + k) = Fx + k := wrap64_idT _ (by omega) (by omega)
        by_cases hs : 1099511627776 < Fx + k
        · go_wp2_with fail
          refine HOF.out.mono ?_
          rintro e w1 ⟨rfl, rfl⟩
          go_wp2_with fail
          go_meet
          refine ⟨?_, rfl⟩
          congr 1
          rw [← HTS.out]
          unfold tsum
          omega
          
        · go_wp2_with fail
          refine HOF.out.mono ?_
          rintro e w1 ⟨rfl, rfl⟩
          go_wp2_with fail
          go_meet
          refine ⟨?_, rfl⟩
          congr 1
          rw [← HTS.out]
          unfold tsum
          omega
          
  case rest =>
  obtain ⟨rfl, rfl⟩ := hcut
  clear HOF hx HTS HLX
  have e0 : (Go.binOp .eql 46 (.map none) (.map none)).run Try.prog w = .ok (.bool true) w := by kernel_rfl
  rcases h4 with ⟨rfl, rfl⟩ | ⟨m, D, rfl, hne, hBm, ho, hf⟩
  · have hne : ¬ b = w.heap.size := by omega
    have hne2 : ¬ w.heap.size = b := by omega
    have hs1 : (w.setCell ⟨b, 0, none⟩ (.map (some w.heap.size))).heap.size = w.heap.size := by simp
    have ho1 := World.ownsMap_made (H := Unit) (w.setCell ⟨b, 0, none⟩ (.map (some w.heap.size))) Try.prog 3 (plainElem Try.prog 3)
    rw [hs1] at ho1
    have HO1 := Kp.mk ho1
    have hb1 : ((w.setCell ⟨b, 0, none⟩ (.map (some w.heap.size))).alloc (.map #[] 0)).heap[b]? = some (.cells #[.map (some w.heap.size), .int .i64 0, .int .i64 0] 48 (0, 0)) := blk_alloc (blk_set HBK.out _)
    clear ho1 hs1
    have HB1 := Kp.mk hb1
    have c1 := blk_cell (i := 0) hb1 rfl
    have fa := blk_free (i := 0) (blk_alloc (o2 := .map #[] 0) HBK.out)
    have hbl2 := blk_lt hb1
    have HW := Kp.mk (((Below.refl B w).setCell (p := ⟨b, 0, none⟩) HB0.out (.map (some w.heap.size))).alloc (by simpa using hB) (.map #[] 0))
    have HSZ := Kp.mk hB
    clear hb1
    go_wp2_with (first
      | (at_mapUpdate; refine wpList_mapUpdate_own _ rfl _ _ _ 46 rfl 3 3 Try.keyTi Try.underlying46 _ w.heap.size 0 (.map []) rfl HO1.out hkm0 _ _ _ rfl rfl (Maps.keyOf_int_mk Try.underlying3 HX.out) _ _ (plainElem_int Try.underlying3 hwfS) ?_; intro w2 ho2 hg2; have HO2 := Kp.mk ho2; have HG2 := Kp.mk hg2; clear ho2 hg2)
      | fail)
    go_ret
    refine ⟨rfl, ⟨HB0.out, HLE.out, some w.heap.size, (HG2.out.block _ hbl2 (fun e => hne (by injection e))).trans HB1.out, .inr ⟨w.heap.size, _, rfl, hne2, HSZ.out, own_leTi HO2.out (by omega), FTi.put FTi.start Maps.isMap_empty x S HKL.out⟩⟩, ?_, fun q hq hqb _ => ?_⟩
    · exact HW.out.grown HG2.out (Nat.le_trans HSZ.out HW.out.size) fun k hk => by cases hk; exact HSZ.out
    · exact (HG2.out.block q (by simp; omega) (fun e => by injection e with e; omega)).trans ((Below.heap_alloc _ _ q (by simp; omega)).trans (Below.heap_setCell _ _ _ _ hqb))
  · have HO := Kp.mk ho
    have HF := Kp.mk hf
    have HM := Kp.mk (And.intro hne hBm)
    have HSZ := Kp.mk hB
    have e1 : (Go.binOp .eql 46 (.map (some m)) (.map none)).run Try.prog w = .ok (.bool false) w := by kernel_rfl
    clear ho hf hBm
    go_wp2_with (first
      | (at_mapUpdate; refine wpList_mapUpdate_own _ rfl _ _ _ 46 rfl 3 3 Try.keyTi Try.underlying46 _ m n D rfl HO.out hkm _ _ _ rfl rfl (Maps.keyOf_int_mk Try.underlying3 HX.out) _ _ (plainElem_int Try.underlying3 hwfS) ?_; intro w2 ho2 hg2; have HO2 := Kp.mk ho2; have HG2 := Kp.mk hg2; clear ho2 hg2)
      | fail)
    go_ret
    refine ⟨rfl, ⟨HB0.out, HLE.out, some m, (HG2.out.block _ hbl (fun e => HM.out.1 (by injection e with e; exact e.symm))).trans HBK.out, .inr ⟨m, _, rfl, HM.out.1, HM.out.2, HO2.out, FTi.put HF.out (own_ismapTi HO.out) x S HKL.out⟩⟩, ?_, fun q hq hqb hqm => ?_⟩
    · exact (Below.refl B w).grown HG2.out HSZ.out fun k hk => by cases hk; exact HM.out.2
    · refine HG2.out.block q hq fun e => ?_
      injection e with e
      subst e
      obtain ⟨es, clock, hh, -⟩ := HO.out
      exact hqm es clock hh
theorem taddi_any (B b n : Nat) (F : Int → Int) (x : Int) (k : Int) (w : World) (h : Tyi B b n F w) (hx : (Lit.int .i64 x).wf = true) (hn : n ≤ 100000) (hB : B ≤ w.heap.size) :
    Calls Try.prog 16 #[.pointer (some ⟨b, 0, none⟩), .int .i64 x, .int .i64 k] w fun e w' => e = .returned (.int .i64 (tsum (F x) k)) ∧ Tyi B b (n + 1) (adFi F x (tsum (F x) k)) w' ∧ Below B w w' :=
  (taddi_keep B b n F x k w h hx hn hB).mono fun _ _ ⟨h1, h2, h3, _⟩ => ⟨h1, h2, h3⟩
end Go.Proofs.Ytocnecbhpofdgaa
