/- Heads (layer 22): a head's lines, the program's. -/
import Derived.Test.YtcbfhlnnfnpkdaaGreatDoorFuc
import Derived.Test.YtcbfhlnnfnpkdaaGreatDoorStm
import Derived.Test.YtcbfhlnnfnpkdaaGreatDoorStp
import Derived.Deep.RegionHeld3
import Derived.Deep.DeepCutAuto
import Derived.Deep.WholeRow
import Derived.Laws.CopyOwn
namespace Go.Proofs.YtcbfhlnnfnpkdaaGreatDoor
open Go.RowKit
set_option linter.unusedVariables false
set_option linter.unusedSimpArgs false

/-- A head: method, target, minor, status, reason; its fields. -/
structure HdD where
  m : ByteArray
  t : ByteArray
  mi : Int
  st : Int
  r : ByteArray
  f : List Fld
def hd0 : HdD := ⟨⟨#[]⟩, ⟨#[]⟩, 0, 0, ⟨#[]⟩, []⟩
def hdV (H : HdD) (u : Value) : Value := .agg #[.string H.m, .string H.t, .int .i64 H.mi, .int .i64 H.st, .string H.r, u]
/-- The first line. -/
def flH (kind : Int) (s : ByteArray) : HdD := if kind = 2 then ⟨⟨#[]⟩, ⟨#[]⟩, staN s, staS s, staR s, []⟩ else ⟨reqM s, reqT s, reqN s, 0, ⟨#[]⟩, []⟩
def flE (kind : Int) (s : ByteArray) : Int := if kind = 2 then staE s else reqE s
/-- P22.1. -/
def prH (kind lf fold : Int) (L : List ByteArray) : HdD × Int :=
  if kind ≠ 1 ∧ kind ≠ 2 then (hd0, 1) else
  match L with
  | [] => (hd0, 2)
  | s :: L' => if flE kind s ≠ 0 then (hd0, flE kind s) else if lf < (L'.length : Int) then (hd0, 4) else if afE fold L' ≠ 0 then (hd0, afE fold L') else ({ flH kind s with f := afL fold L' }, 0)
def RetHd (R : HdD × Int) (w : World) (e : Ending) (w' : World) : Prop :=
  ∃ u, e = .returned (.tuple #[hdV R.1 u, .int .i64 R.2]) ∧ w'.ownsRow w.heap.size 67 2 u R.1.f.length (fvH R.1.f) ∧ Below w.heap.size w w'
theorem prH_kind {kind lf fold : Int} {L : List ByteArray} (h : kind ≠ 1 ∧ kind ≠ 2) : prH kind lf fold L = (hd0, 1) := by unfold prH; rw [if_pos h]
theorem prH_none {kind lf fold : Int} (h : kind = 1 ∨ kind = 2) : prH kind lf fold [] = (hd0, 2) := by unfold prH; rw [if_neg (by omega)]
theorem prH_first {kind lf fold : Int} {s : ByteArray} {L : List ByteArray} (h : kind = 1 ∨ kind = 2) (h1 : flE kind s ≠ 0) : prH kind lf fold (s :: L) = (hd0, flE kind s) := by
  unfold prH; rw [if_neg (by omega)]
  show (if flE kind s ≠ 0 then _ else _) = _
  rw [if_pos h1]
theorem prH_many {kind lf fold : Int} {s : ByteArray} {L : List ByteArray} (h : kind = 1 ∨ kind = 2) (h1 : flE kind s = 0) (h2 : lf < (L.length : Int)) : prH kind lf fold (s :: L) = (hd0, 4) := by
  unfold prH; rw [if_neg (by omega)]
  show (if flE kind s ≠ 0 then _ else if lf < _ then _ else _) = _
  rw [if_neg (by rw [h1]; decide), if_pos h2]
theorem prH_fields {kind lf fold : Int} {s : ByteArray} {L : List ByteArray} (h : kind = 1 ∨ kind = 2) (h1 : flE kind s = 0) (h2 : ¬ lf < (L.length : Int)) (h3 : afE fold L ≠ 0) : prH kind lf fold (s :: L) = (hd0, afE fold L) := by
  unfold prH; rw [if_neg (by omega)]
  show (if flE kind s ≠ 0 then _ else if lf < _ then _ else if afE fold L ≠ 0 then _ else _) = _
  rw [if_neg (by rw [h1]; decide), if_neg h2, if_pos h3]
theorem prH_good {kind lf fold : Int} {s : ByteArray} {L : List ByteArray} (h : kind = 1 ∨ kind = 2) (h1 : flE kind s = 0) (h2 : ¬ lf < (L.length : Int)) (h3 : afE fold L = 0) : prH kind lf fold (s :: L) = ({ flH kind s with f := afL fold L }, 0) := by
  unfold prH; rw [if_neg (by omega)]
  show (if flE kind s ≠ 0 then _ else if lf < _ then _ else if afE fold L ≠ 0 then _ else _) = _
  rw [if_neg (by rw [h1]; decide), if_neg h2, if_neg (by rw [h3]; decide)]
/-- The rest of a slice of texts. -/
theorem rds_tail {w : World} {g o n c : Nat} {s : ByteArray} {L : List ByteArray} (h : RdS w (.slice (some ⟨g, o, none⟩) n c) (s :: L)) : RdS w (.slice (some ⟨g, o + 1, none⟩) L.length (c - 1)) L ∧ RdS w (.slice (some ⟨g, o, none⟩) 0 0) [] := by
  obtain ⟨a, c', h1, h2, h3, h4⟩ := h
  cases h1
  obtain ⟨b, o', e, hb, hc⟩ := h4 (by simp)
  cases e
  simp only [List.length_cons] at h2
  refine ⟨⟨_, c - 1, rfl, by omega, by omega, fun _ => ⟨g, o + 1, rfl, hb, fun j hj i hi => ?_⟩⟩, RdL.nil (by unfold maxLen; omega)⟩
  have := hc (j + 1) (by simp; omega) i hi
  rw [List.getElem_cons_succ] at this
  rw [← this]
  congr 2
  omega
/-- Two blocks, the one of limits and the one of the result. -/
structure Hx (h : Nat) (c1 c2 : Array Value) (w W : World) : Prop where
  b1 : W.heap[h]? = some (.cells c1 23 (0, 0))
  b2 : W.heap[h + 1]? = some (.cells c2 29 (0, 0))
  bel : Below h w W
theorem Hx.new (w : World) (c1 c2 : Array Value) : Hx w.heap.size c1 c2 w ((w.alloc (.cells c1 23)).alloc (.cells c2 29)) := by
  have e1 : (w.alloc (.cells c1 23)).heap.size = w.heap.size + 1 := World.size_alloc _ _
  have k1 := heap_alloc_new (w.alloc (.cells c1 23)) (.cells c2 29)
  rw [e1] at k1
  exact ⟨blk_alloc (heap_alloc_new w _), k1, ((Below.refl _ w).alloc (Nat.le_refl _) _).alloc (by rw [e1]; omega) _⟩
theorem Hx.call {h : Nat} {c1 c2 : Array Value} {w W W' : World} (H : Hx h c1 c2 w W) (hb : Below W.heap.size W W') : Hx h c1 c2 w W' :=
  ⟨(hb.block h (blk_lt H.b1)).trans H.b1, (hb.block (h + 1) (blk_lt H.b2)).trans H.b2, H.bel.trans (hb.mono (by have := blk_lt H.b1; omega))⟩
theorem Hx.alloc {h : Nat} {c1 c2 : Array Value} {w W : World} (H : Hx h c1 c2 w W) (o : Obj) : Hx h c1 c2 w (W.alloc o) :=
  H.call ((Below.refl _ W).alloc (Nat.le_refl _) o)
theorem Hx.far {h b : Nat} {c1 c2 : Array Value} {w W : World} (H : Hx h c1 c2 w W) (hb : h + 2 ≤ b) (i : Nat) (v : Value) : Hx h c1 c2 w (W.setCell ⟨b, i, none⟩ v) :=
  ⟨blk_set_other H.b1 (by omega) _, blk_set_other H.b2 (by omega) _, H.bel.setCell (by show h ≤ b; omega) _⟩
theorem Hx.put {h : Nat} {c1 : Array Value} {z0 z1 z2 z3 z4 z5 : Value} {w W : World} (H : Hx h c1 #[z0, z1, z2, z3, z4, z5] w W) (v0 v1 v2 v3 v4 v5 : Value) :
    Hx h c1 #[v0, v1, v2, v3, v4, v5] w ((((((W.setCell ⟨h + 1, 0, none⟩ v0).setCell ⟨h + 1, 1, none⟩ v1).setCell ⟨h + 1, 2, none⟩ v2).setCell ⟨h + 1, 3, none⟩ v3).setCell ⟨h + 1, 4, none⟩ v4).setCell ⟨h + 1, 5, none⟩ v5) :=
  ⟨blk_set_other (blk_set_other (blk_set_other (blk_set_other (blk_set_other (blk_set_other H.b1 (by omega) _) (by omega) _) (by omega) _) (by omega) _) (by omega) _) (by omega) _,
    (blk_set (blk_set (blk_set (blk_set (blk_set (blk_set H.b2 _) _) _) _) _) _).trans rfl,
    (((((H.bel.setCell (by simp) _).setCell (by simp) _).setCell (by simp) _).setCell (by simp) _).setCell (by simp) _).setCell (by simp) _⟩
theorem own_otherH {w : World} {B : Nat} {e : TypeId} {sz n : Nat} {v : Value} {xs : List Value} {b o : Nat} {u : Value} (h : w.ownsRow B e sz v n xs) (hb : b < B) : (w.setCell ⟨b, o, none⟩ u).ownsRow B e sz v n xs := by
  refine ⟨h.1, ?_⟩
  rcases h.2 with h2 | ⟨g, cap, cur, rfl, h3, hg, rest⟩
  · exact .inl h2
  · exact .inr ⟨g, cap, cur, rfl, h3, blk_set_other hg (by omega) _, rest⟩
theorem own_put6H {w : World} {B : Nat} {e : TypeId} {sz n : Nat} {v : Value} {xs : List Value} {b : Nat} (h : w.ownsRow B e sz v n xs ∧ b < B) (v0 v1 v2 v3 v4 v5 : Value) :
    ((((((w.setCell ⟨b, 0, none⟩ v0).setCell ⟨b, 1, none⟩ v1).setCell ⟨b, 2, none⟩ v2).setCell ⟨b, 3, none⟩ v3).setCell ⟨b, 4, none⟩ v4).setCell ⟨b, 5, none⟩ v5).ownsRow B e sz v n xs :=
  own_otherH (own_otherH (own_otherH (own_otherH (own_otherH (own_otherH h.1 h.2) h.2) h.2) h.2) h.2) h.2
theorem setRow_otherH {w : World} {g k : Nat} (cs : Array Value) (h : k ≠ g) : (w.setRow g cs).heap[k]? = w.heap[k]? := by
  have h' : ¬ g = k := fun e => h e.symm
  simp [World.setRow, Array.getElem?_modify, h']
theorem own_setRowH {w : World} {B : Nat} {e : TypeId} {sz n : Nat} {v : Value} {xs : List Value} {b : Nat} (h : w.ownsRow B e sz v n xs) (hb : b < B) (cs : Array Value) : (w.setRow b cs).ownsRow B e sz v n xs := by
  refine ⟨h.1, ?_⟩
  rcases h.2 with h2 | ⟨g, cap, cur, rfl, h3, hg, rest⟩
  · exact .inl h2
  · exact .inr ⟨g, cap, cur, rfl, h3, (setRow_otherH cs (by omega)).trans hg, rest⟩
theorem res_hd {P : Program} {fn : Func} {p q : Tmp} {ty : TypeId} (h : fn.results = #[.cell p ty, .tmp q]) (tmps : Array Value) (w : World) (g : Nat) (t : TypeId) (cs : Array Value) (fr : Nat × Nat) (d : TypeDesc) (v : Value)
    (hp : tmps.getD p undef = .pointer (some ⟨g, 0, none⟩)) (hq : tmps.getD q undef = v) (hg : w.heap[g]? = some (.cells cs t fr))
    (hu : P.underlying ty = some d) (hd : (match d with | .struct _ | .array _ _ => true | _ => false) = true) (hi : (P.info? ty).map (·.size) = some cs.size) :
    (results fn tmps).run P w = .ok (.tuple #[.agg cs, v]) w := by
  have hp' : tmps[p]?.getD undef = .pointer (some ⟨g, 0, none⟩) := by simpa using hp
  have hq' : tmps[q]?.getD undef = v := by simpa using hq
  simp [results, h, hp', hq', asAddr, run_loadVar_row w g t ty cs fr d hg hu hd hi]
/-- Either first line. -/
theorem first_any (kind : Int) (s : ByteArray) (w : World) (hs : s.size ≤ 1000000) (f : FuncId) (hf : f = if kind = 2 then 27 else 26) :
    Calls Tryz.prog f #[.string s] w fun e w' => e = .returned (.tuple #[hdV (flH kind s) (.slice none 0 0), .int .i64 (flE kind s)]) ∧ Below w.heap.size w w' := by
  subst hf
  unfold flH flE hdV
  split
  · exact (status_any s w hs).mono fun e w' h => h
  · exact (request_any s w hs).mono fun e w' h => h
set_option maxRecDepth 100000 in
set_option maxHeartbeats 16000000 in
theorem hparse_any (kind x0 lf x2 x3 fold : Int) (v : Value) (L : List ByteArray) (w : World) (hv : RdS w v L) (hl : L.length ≤ 1000) (hz : ∀ s ∈ L, s.size ≤ 900) (hlf : -9223372036854775808 ≤ lf ∧ lf ≤ 9223372036854775807) :
    Calls Tryz.prog 9 #[.int .i64 kind, .agg #[.int .i64 x0, .int .i64 lf, .int .i64 x2, .int .i64 x3, .int .i64 fold], v] w (RetHd (prH kind lf fold L) w) := by
  have HV := Kp.mk hv
  have HZ := Kp.mk hz
  obtain ⟨av, cv, rfl, hcv, hcm, -⟩ := hv
  have HB := Kp.mk (Hx.new w #[.int .i64 x0, .int .i64 lf, .int .i64 x2, .int .i64 x3, .int .i64 fold] #[.string ⟨#[]⟩, .string ⟨#[]⟩, .int .i64 0, .int .i64 0, .string ⟨#[]⟩, .slice none 0 0])
  unfold RetHd hdV
  clear hz
  have l1 := blk_cell (i := 1) HB.out.b1 rfl
  have l4 := blk_cell (i := 4) HB.out.b1 rfl
  have z0 := blk_cell (i := 0) HB.out.b2 rfl
  have z1 := blk_cell (i := 1) HB.out.b2 rfl
  have z2 := blk_cell (i := 2) HB.out.b2 rfl
  have z3 := blk_cell (i := 3) HB.out.b2 rfl
  have z4 := blk_cell (i := 4) HB.out.b2 rfl
  have z5 := blk_cell (i := 5) HB.out.b2 rfl
  have f0 := blk_free (i := 0) HB.out.b2
  have f1 := blk_free (i := 1) HB.out.b2
  have f2 := blk_free (i := 2) HB.out.b2
  have f3 := blk_free (i := 3) HB.out.b2
  have f4 := blk_free (i := 4) HB.out.b2
  have f5 := blk_free (i := 5) HB.out.b2
  by_cases hk : kind ≠ 1 ∧ kind ≠ 2
  · have HS := Kp.mk (prH_kind (lf := lf) (fold := fold) (L := L) hk)
    have hk1 : (kind != 1) = true := by rw [bne_iff_ne]; exact hk.1
    have hk2 : (kind != 2) = true := by rw [bne_iff_ne]; exact hk.2
    generalize prH kind lf fold L = S at *
    go_enter Tryz.func9, Tryz.ntmps9
    go_wp2_with fail
    exact bodyPost_ret (v := .tuple #[.agg #[.string ⟨#[]⟩, .string ⟨#[]⟩, .int .i64 0, .int .i64 0, .string ⟨#[]⟩, .slice none 0 0], .int .i64 1]) (by simp [results, Tryz.results9, go_sem, z0, z1, z2, z3, z4, z5]) rfl ⟨.slice none 0 0, by rw [HS.out] <;> rfl, by rw [HS.out]; exact World.ownsRow_nil _ _ _ _, HB.out.bel⟩
  · have hk0 : kind = 1 ∨ kind = 2 := by omega
    rcases L with _ | ⟨s, L⟩
    · have HS := Kp.mk (prH_none (lf := lf) (fold := fold) hk0)
      generalize prH kind lf fold [] = S at *
      rcases hk0 with rfl | rfl
      all_goals
        go_enter Tryz.func9, Tryz.ntmps9
        go_wp2_with fail
        exact bodyPost_ret (v := .tuple #[.agg #[.string ⟨#[]⟩, .string ⟨#[]⟩, .int .i64 0, .int .i64 0, .string ⟨#[]⟩, .slice none 0 0], .int .i64 2]) (by simp [results, Tryz.results9, go_sem, z0, z1, z2, z3, z4, z5]) rfl ⟨.slice none 0 0, by rw [HS.out] <;> rfl, by rw [HS.out]; exact World.ownsRow_nil _ _ _ _, HB.out.bel⟩
    · have HF := Kp.mk (first_any kind s)
      have HS1 := Kp.mk (fun q => prH_first (lf := lf) (fold := fold) (L := L) hk0 (s := s) q)
      have HS2 := Kp.mk (fun q r => prH_many (lf := lf) (fold := fold) (L := L) hk0 (s := s) q r)
      have HS3 := Kp.mk (fun q r t => prH_fields (lf := lf) (fold := fold) (L := L) hk0 (s := s) q r t)
      have HS4 := Kp.mk (fun q r t => prH_good (lf := lf) (fold := fold) (L := L) hk0 (s := s) q r t)
      obtain ⟨g, o, rfl, hgl, dd⟩ := rds_cells HV.out (by simp)
      have c0 := dd 0 (by simp)
      rw [Nat.add_zero, List.getElem_cons_zero] at c0
      have c0' := (HB.out.bel.cell (p := ⟨g, o, none⟩) hgl).trans c0
      have hsz := HZ.out s (by simp)
      obtain ⟨tl1, tl2⟩ := rds_tail HV.out
      have TL1 := Kp.mk tl1
      have TL2 := Kp.mk tl2
      have HZ2 := Kp.mk (fun x (hx : x ∈ L) => HZ.out x (by simp [hx]))
      have hll : (s :: L).length = L.length + 1 := rfl
      rw [hll] at hcv hl ⊢
      have hlen : ((L.length + 1 : Nat) : Int) - 1 = (L.length : Int) := by omega
      have hlen0 : ¬ ((L.length + 1 : Nat) : Int) = 0 := by omega
      have hlen1 : (1 : Int) ≤ ((L.length + 1 : Nat) : Int) := by omega
      have pw : IntKind.i64.wrap (L.length : Int) = (L.length : Int) := wrap_small _ (by omega) (by omega)
      generalize prH kind lf fold (s :: L) = S at *
      generalize flE kind s = fe at *
      generalize flH kind s = FH at *
      obtain ⟨m9, t9, mi9, st9, r9, fx⟩ := FH
      unfold hdV at HF
      dsimp only at HF HS4
      clear tl1 tl2 dd c0 hk HV
      have q0 : (0 : Int) < ((L.length + 1 : Nat) : Int) := by omega
      rcases hk0 with rfl | rfl
      all_goals
        have HFC := Kp.mk (fun w => HF.out w (by omega) _ rfl)
        simp only [if_true, if_false, show ((1 : Int) = 2) = False by simp] at HFC
        clear HF
        go_enter Tryz.func9, Tryz.ntmps9
        go_wp2_with fail
        refine (HFC.out _).mono ?_
        rintro e w9 ⟨rfl, hb9⟩
        have N9 := Kp.mk (heap_alloc_new w9 (.cells #[.string m9, .string t9, .int .i64 mi9, .int .i64 st9, .string r9, .slice none 0 0] 29))
        have hw9 : w.heap.size + 2 ≤ w9.heap.size := by have := blk_lt (HB.out.call hb9).b2; omega
        replace HB := Kp.mk ((HB.out.call hb9).alloc (.cells #[.string m9, .string t9, .int .i64 mi9, .int .i64 st9, .string r9, .slice none 0 0] 29))
        clear hb9 c0' l1 l4 z0 z1 z2 z3 z4 z5 f0 f1 f2 f3 f4 f5
        have l1 := blk_cell (i := 1) HB.out.b1 rfl
        have l4 := blk_cell (i := 4) HB.out.b1 rfl
        have z0 := blk_cell (i := 0) HB.out.b2 rfl
        have z1 := blk_cell (i := 1) HB.out.b2 rfl
        have z2 := blk_cell (i := 2) HB.out.b2 rfl
        have z3 := blk_cell (i := 3) HB.out.b2 rfl
        have z4 := blk_cell (i := 4) HB.out.b2 rfl
        have z5 := blk_cell (i := 5) HB.out.b2 rfl
        have f0 := blk_free (i := 0) HB.out.b2
        have f1 := blk_free (i := 1) HB.out.b2
        have f2 := blk_free (i := 2) HB.out.b2
        have f3 := blk_free (i := 3) HB.out.b2
        have f4 := blk_free (i := 4) HB.out.b2
        have f5 := blk_free (i := 5) HB.out.b2
        by_cases he : fe = 0
        · subst he
          by_cases hm : lf < (L.length : Int)
          · have HS := Kp.mk (HS2.out rfl hm)
            go_wp2_with fail
            have HZ := HB.out.put (.string ⟨#[]⟩) (.string ⟨#[]⟩) (.int .i64 0) (.int .i64 0) (.string ⟨#[]⟩) (.slice none 0 0)
            have y0 := blk_cell (i := 0) HZ.b2 rfl
            have y1 := blk_cell (i := 1) HZ.b2 rfl
            have y2 := blk_cell (i := 2) HZ.b2 rfl
            have y3 := blk_cell (i := 3) HZ.b2 rfl
            have y4 := blk_cell (i := 4) HZ.b2 rfl
            have y5 := blk_cell (i := 5) HZ.b2 rfl
            exact bodyPost_ret (v := .tuple #[.agg #[.string ⟨#[]⟩, .string ⟨#[]⟩, .int .i64 0, .int .i64 0, .string ⟨#[]⟩, .slice none 0 0], .int .i64 4]) (by simp [results, Tryz.results9, go_sem, y0, y1, y2, y3, y4, y5]) rfl ⟨.slice none 0 0, by rw [HS.out] <;> rfl, by rw [HS.out]; exact World.ownsRow_nil _ _ _ _, HZ.bel⟩
          · have HA := Kp.mk (fun u w hu => fall_any fold u L w hu (by omega) HZ2.out)
            unfold RetUA at HA
            replace HS3 := Kp.mk (fun q => HS3.out rfl (by omega) q)
            replace HS4 := Kp.mk (fun q => HS4.out rfl (by omega) q)
            generalize afL fold L = A at *
            generalize afE fold L = ae at *
            go_upto_region 13 with fail
            rcases Nat.lt_or_ge 1 cv with hc1 | hc1
            · have hc2 : (1 : Int) < (cv : Int) := by omega
              have hc3 : (1 : Int) ≤ (cv : Int) := by omega
              have hc4 : ¬ (cv : Int) = 1 := by omega
              have hc5 : ¬ cv = 1 := by omega
              go_cut [10] (fun s10 wx => ∃ v11 : Value, s10 = .int .i64 ae ∧ Hx w.heap.size #[.int .i64 x0, .int .i64 lf, .int .i64 x2, .int .i64 x3, .int .i64 fold] #[.string ⟨#[]⟩, .string ⟨#[]⟩, .int .i64 0, .int .i64 0, .string ⟨#[]⟩, .slice none 0 0] w wx ∧ wx.heap[w9.heap.size]? = some (.cells #[.string m9, .string t9, .int .i64 mi9, .int .i64 st9, .string r9, v11] 29 (0, 0)) ∧ wx.ownsRow (w9.heap.size + 1) 67 2 v11 A.length (fvH A))
              case first =>
                refine wp_region_held_drew (S := fun w' => w'.cell? ⟨w.heap.size, 4, none⟩ = some (.int .i64 fold)) (by kernel_rfl) (l4) (fun hHeld => ?_)
                refine wpAnyH_take (i := 0) (oi := ⟨some 48, .fieldAddr 23 (.tmp 4) 4, _, _, _, none⟩) (v := ?_) rfl (by kernel_rfl) (by kernel_rfl) (by kernel_rfl) (fun _ _ _ h => h) (Or.inl ⟨by rfl, ?_⟩) (by assumption) ?_
                rotate_left
                · intro w hSw
                  try dsimp only at hSw
                  go_simp
                  try with_reducible rfl
                try simp only [Act.put, List.setIfInBounds_toArray, List.set_cons_zero, List.set_cons_succ]
                refine wpAnyH_take (i := 1) (oi := ⟨some 49, .load 3 (.tmp 48), _, _, _, none⟩) (v := ?_) rfl (by kernel_rfl) (by kernel_rfl) (by kernel_rfl) (fun _ _ _ h => h) (Or.inl ⟨by rfl, ?_⟩) (by assumption) ?_
                rotate_left
                · intro w hSw
                  try dsimp only at hSw
                  go_simp
                  try with_reducible rfl
                try simp only [Act.put, List.setIfInBounds_toArray, List.set_cons_zero, List.set_cons_succ]
                refine wpAnyH_take (i := 2) (oi := ⟨some 50, .move (.tmp 2), _, _, _, none⟩) (v := ?_) rfl (by kernel_rfl) (by kernel_rfl) (by kernel_rfl) (fun _ _ _ h => h) (Or.inl ⟨by rfl, ?_⟩) (by assumption) ?_
                rotate_left
                · intro w hSw
                  try dsimp only at hSw
                  go_simp
                  try with_reducible rfl
                try simp only [Act.put, List.setIfInBounds_toArray, List.set_cons_zero, List.set_cons_succ]
                refine wpAnyH_take (i := 3) (oi := ⟨some 51, .slice 24 (.tmp 50) (some (.const (.int .i64 1))) none none, _, _, _, none⟩) (v := ?_) rfl (by kernel_rfl) (by kernel_rfl) (by kernel_rfl) (fun _ _ _ h => h) (Or.inl ⟨by rfl, ?_⟩) (by assumption) ?_
                rotate_left
                · intro w hSw
                  try dsimp only at hSw
                  go_simp
                  first
                    | done
                    | with_reducible rfl
                    | (rw [if_pos (by omega)])
                try simp only [Act.put, List.setIfInBounds_toArray, List.set_cons_zero, List.set_cons_succ]
                refine wpAnyH_ready (rs := [4]) (by kernel_rfl) (by simp) ?_
                refine AllReadyH.cons (o := ⟨some 52, _, _, _, _, none⟩) rfl (fun K hK => ?_) AllReadyH.nil
                go_simp
                (go_at_call 28; refine (HA.out _ _ (TL1.out.below (HB.out.bel.drew))).mono ?_; rintro e w11 ⟨v11, rfl, ow11, hb11⟩)
                obtain ⟨a11, c11, rfl⟩ := own_lenH ow11
                have OW11 := Kp.mk ow11
                have HB11 := Kp.mk (HB.out.call ((Below.refl _ _).drew.trans hb11))
                have N11 := Kp.mk ((hb11.block w9.heap.size (by simp)).trans N9.out)
                have e5 := blk_cell (i := 5) N11.out rfl
                have g5 := blk_free (i := 5) N11.out
                clear hb11 ow11
                try go_wp2_with fail
                refine hK.out _ _ (blk_cell (i := 4) HB11.out.b1 rfl) (fun hHeld2 => ?_)
                clear hK K
                try simp only [Act.put, List.setIfInBounds_toArray, List.set_cons_zero, List.set_cons_succ]
                refine wpAnyH_take (i := 5) (oi := ⟨some 47, .move (.tmp 52), _, _, _, none⟩) (v := ?_) rfl (by kernel_rfl) (by kernel_rfl) (by kernel_rfl) (fun _ _ _ h => h) (Or.inl ⟨by rfl, ?_⟩) (by assumption) ?_
                rotate_left
                · intro w hSw
                  try dsimp only at hSw
                  go_simp
                  try with_reducible rfl
                try simp only [Act.put, List.setIfInBounds_toArray, List.set_cons_zero, List.set_cons_succ]
                refine wpAnyH_take (i := 6) (oi := ⟨some 53, .extract (.tmp 47) 0, _, _, _, none⟩) (v := ?_) rfl (by kernel_rfl) (by kernel_rfl) (by kernel_rfl) (fun _ _ _ h => h) (Or.inl ⟨by rfl, ?_⟩) (by assumption) ?_
                rotate_left
                · intro w hSw
                  try dsimp only at hSw
                  go_simp
                  try with_reducible rfl
                try simp only [Act.put, List.setIfInBounds_toArray, List.set_cons_zero, List.set_cons_succ]
                refine wpAnyH_take (i := 7) (oi := ⟨some 54, .extract (.tmp 47) 1, _, _, _, none⟩) (v := ?_) rfl (by kernel_rfl) (by kernel_rfl) (by kernel_rfl) (fun _ _ _ h => h) (Or.inl ⟨by rfl, ?_⟩) (by assumption) ?_
                rotate_left
                · intro w hSw
                  try dsimp only at hSw
                  go_simp
                  try with_reducible rfl
                try simp only [Act.put, List.setIfInBounds_toArray, List.set_cons_zero, List.set_cons_succ]
                refine wpAnyH_take (i := 8) (oi := ⟨some 55, .fieldAddr 29 (.tmp 9) 5, _, _, _, none⟩) (v := ?_) rfl (by kernel_rfl) (by kernel_rfl) (by kernel_rfl) (fun _ _ _ h => h) (Or.inl ⟨by rfl, ?_⟩) (by assumption) ?_
                rotate_left
                · intro w hSw
                  try dsimp only at hSw
                  go_simp
                  try with_reducible rfl
                try simp only [Act.put, List.setIfInBounds_toArray, List.set_cons_zero, List.set_cons_succ]
                refine wpAnyH_ready (rs := [9]) (by kernel_rfl) (by simp) ?_
                refine AllReadyH.cons (o := ⟨none, _, _, _, _, none⟩) rfl (fun K hK => ?_) AllReadyH.nil
                go_simp
                refine hK.out _ _ (blk_cell (i := 4) (HB11.out.far hw9 5 _).b1 rfl) (fun hHeld2 => ?_)
                clear hK K
                try simp only [Act.put, List.setIfInBounds_toArray, List.set_cons_zero, List.set_cons_succ]
                refine wpAnyH_take (i := 10) (oi := ⟨some 10, .assign (.tmp 54), _, _, _, none⟩) (v := ?_) rfl (by kernel_rfl) (by kernel_rfl) (by kernel_rfl) (fun _ _ _ h => h) (Or.inl ⟨by rfl, ?_⟩) (by assumption) ?_
                rotate_left
                · intro w hSw
                  try dsimp only at hSw
                  go_simp
                  try with_reducible rfl
                try simp only [Act.put, List.setIfInBounds_toArray, List.set_cons_zero, List.set_cons_succ]
                refine wpAnyH_done (by kernel_rfl) ?_ _
                have HB12 := Kp.mk (HB11.out.far hw9 5 (.slice a11 A.length c11))
                have N12 := Kp.mk (blk_set N11.out (i := 5) (.slice a11 A.length c11))
                have OW12 := Kp.mk (own_otherH (b := w9.heap.size) (o := 5) (u := .slice a11 A.length c11) (show w11.ownsRow (w9.heap.size + 1) 67 2 (.slice a11 A.length c11) A.length (fvH A) from own_lowF OW11.out (by simp)) (by omega))
                try go_wp2_with fail
                try go_meet
                exact ⟨.slice a11 A.length c11, rfl, HB12.out, N12.out, OW12.out⟩
              case rest =>
                obtain ⟨v11, rfl, hbx, hn12, how⟩ := hcut
                obtain ⟨a11, c11, rfl⟩ := own_lenH how
                have HB12 := Kp.mk hbx
                have N12 := Kp.mk hn12
                have OW12 := Kp.mk how
                clear hbx hn12 how HB N9 l1 l4 z0 z1 z2 z3 z4 z5 f0 f1 f2 f3 f4 f5
                have l1 := blk_cell (i := 1) HB12.out.b1 rfl
                have l4 := blk_cell (i := 4) HB12.out.b1 rfl
                have z0 := blk_cell (i := 0) HB12.out.b2 rfl
                have z1 := blk_cell (i := 1) HB12.out.b2 rfl
                have z2 := blk_cell (i := 2) HB12.out.b2 rfl
                have z3 := blk_cell (i := 3) HB12.out.b2 rfl
                have z4 := blk_cell (i := 4) HB12.out.b2 rfl
                have z5 := blk_cell (i := 5) HB12.out.b2 rfl
                have f0 := blk_free (i := 0) HB12.out.b2
                have f1 := blk_free (i := 1) HB12.out.b2
                have f2 := blk_free (i := 2) HB12.out.b2
                have f3 := blk_free (i := 3) HB12.out.b2
                have f4 := blk_free (i := 4) HB12.out.b2
                have f5 := blk_free (i := 5) HB12.out.b2
                have n0 := blk_cell (i := 0) N12.out rfl
                have n1 := blk_cell (i := 1) N12.out rfl
                have n2 := blk_cell (i := 2) N12.out rfl
                have n3 := blk_cell (i := 3) N12.out rfl
                have n4 := blk_cell (i := 4) N12.out rfl
                have n5 := blk_cell (i := 5) N12.out rfl
                by_cases hae : ae = 0
                · subst hae
                  have HS := Kp.mk (HS4.out rfl)
                  go_upto_region 16 with fail
                  repeat ((fail_if_success (with_reducible show Oper.wp _ (Oper.mk _ (.load _ _) _ _ _ _) _ _ _ _)); go_step)
                  refine wp_load_row _ _ (by rfl) w9.heap.size (by rfl) _ _ _ _ N12.out Tryz.underlying29 rfl (by kernel_rfl) ?_
                  simp only [Act.put]
                  repeat ((fail_if_success (with_reducible show Oper.wp _ (Oper.mk _ (.store _ _ _) _ _ _ _) _ _ _ _)); go_step)
                  refine wp_store_row _ _ _ (by rfl) _ #[.string m9, .string t9, .int .i64 mi9, .int .i64 st9, .string r9, .slice a11 A.length c11] (by rfl) (by rfl) _ _ HB12.out.b2 (by kernel_rfl) rfl (by simp [Value.oneCell']) ?_
                  go_wp2_with fail
                  refine bodyPost_ret (v := .tuple #[.agg #[.string m9, .string t9, .int .i64 mi9, .int .i64 st9, .string r9, .slice a11 A.length c11], .int .i64 0]) ?_ rfl ⟨.slice a11 A.length c11, by rw [HS.out] <;> rfl, by rw [HS.out]; exact own_lowF (B := _) (own_setRowH OW12.out (by omega) _) (by omega), below_setRow HB12.out.bel (by omega) _⟩
                  exact res_hd (p := 6) (q := 7) (ty := 29) (by kernel_rfl) _ _ (w.heap.size + 1) _ _ _ _ _ (by rfl) (by rfl) (setRow_heap _ _ _ _ _ _ HB12.out.b2) Tryz.underlying29 rfl (by kernel_rfl)
                · have HS := Kp.mk (HS3.out hae)
                  have hae2 : (ae != 0) = true := by rw [bne_iff_ne]; exact hae
                  go_wp2_with fail
                  have HZ := HB12.out.put (.string ⟨#[]⟩) (.string ⟨#[]⟩) (.int .i64 0) (.int .i64 0) (.string ⟨#[]⟩) (.slice none 0 0)
                  have y0 := blk_cell (i := 0) HZ.b2 rfl
                  have y1 := blk_cell (i := 1) HZ.b2 rfl
                  have y2 := blk_cell (i := 2) HZ.b2 rfl
                  have y3 := blk_cell (i := 3) HZ.b2 rfl
                  have y4 := blk_cell (i := 4) HZ.b2 rfl
                  have y5 := blk_cell (i := 5) HZ.b2 rfl
                  exact bodyPost_ret (v := .tuple #[.agg #[.string ⟨#[]⟩, .string ⟨#[]⟩, .int .i64 0, .int .i64 0, .string ⟨#[]⟩, .slice none 0 0], .int .i64 ae]) (by simp [results, Tryz.results9, go_sem, y0, y1, y2, y3, y4, y5]) rfl ⟨.slice none 0 0, by rw [HS.out] <;> rfl, by rw [HS.out]; exact World.ownsRow_nil _ _ _ _, HZ.bel⟩
            · obtain rfl : cv = 1 := by omega
              have HL0 := Kp.mk (show L = [] from List.eq_nil_of_length_eq_zero (by omega))
              go_cut [10] (fun s10 wx => ∃ v11 : Value, s10 = .int .i64 ae ∧ Hx w.heap.size #[.int .i64 x0, .int .i64 lf, .int .i64 x2, .int .i64 x3, .int .i64 fold] #[.string ⟨#[]⟩, .string ⟨#[]⟩, .int .i64 0, .int .i64 0, .string ⟨#[]⟩, .slice none 0 0] w wx ∧ wx.heap[w9.heap.size]? = some (.cells #[.string m9, .string t9, .int .i64 mi9, .int .i64 st9, .string r9, v11] 29 (0, 0)) ∧ wx.ownsRow (w9.heap.size + 1) 67 2 v11 A.length (fvH A))
              case first =>
                refine wp_region_held_drew (S := fun w' => w'.cell? ⟨w.heap.size, 4, none⟩ = some (.int .i64 fold)) (by kernel_rfl) (l4) (fun hHeld => ?_)
                refine wpAnyH_take (i := 0) (oi := ⟨some 48, .fieldAddr 23 (.tmp 4) 4, _, _, _, none⟩) (v := ?_) rfl (by kernel_rfl) (by kernel_rfl) (by kernel_rfl) (fun _ _ _ h => h) (Or.inl ⟨by rfl, ?_⟩) (by assumption) ?_
                rotate_left
                · intro w hSw
                  try dsimp only at hSw
                  go_simp
                  try with_reducible rfl
                try simp only [Act.put, List.setIfInBounds_toArray, List.set_cons_zero, List.set_cons_succ]
                refine wpAnyH_take (i := 1) (oi := ⟨some 49, .load 3 (.tmp 48), _, _, _, none⟩) (v := ?_) rfl (by kernel_rfl) (by kernel_rfl) (by kernel_rfl) (fun _ _ _ h => h) (Or.inl ⟨by rfl, ?_⟩) (by assumption) ?_
                rotate_left
                · intro w hSw
                  try dsimp only at hSw
                  go_simp
                  try with_reducible rfl
                try simp only [Act.put, List.setIfInBounds_toArray, List.set_cons_zero, List.set_cons_succ]
                refine wpAnyH_take (i := 2) (oi := ⟨some 50, .move (.tmp 2), _, _, _, none⟩) (v := ?_) rfl (by kernel_rfl) (by kernel_rfl) (by kernel_rfl) (fun _ _ _ h => h) (Or.inl ⟨by rfl, ?_⟩) (by assumption) ?_
                rotate_left
                · intro w hSw
                  try dsimp only at hSw
                  go_simp
                  try with_reducible rfl
                try simp only [Act.put, List.setIfInBounds_toArray, List.set_cons_zero, List.set_cons_succ]
                refine wpAnyH_take (i := 3) (oi := ⟨some 51, .slice 24 (.tmp 50) (some (.const (.int .i64 1))) none none, _, _, _, none⟩) (v := ?_) rfl (by kernel_rfl) (by kernel_rfl) (by kernel_rfl) (fun _ _ _ h => h) (Or.inl ⟨by rfl, ?_⟩) (by assumption) ?_
                rotate_left
                · intro w hSw
                  try dsimp only at hSw
                  go_simp
                  first
                    | done
                    | with_reducible rfl
                    | (rw [if_pos (by omega)])
                try simp only [Act.put, List.setIfInBounds_toArray, List.set_cons_zero, List.set_cons_succ]
                refine wpAnyH_ready (rs := [4]) (by kernel_rfl) (by simp) ?_
                refine AllReadyH.cons (o := ⟨some 52, _, _, _, _, none⟩) rfl (fun K hK => ?_) AllReadyH.nil
                go_simp
                (go_at_call 28; refine (HA.out _ _ (by rw [HL0.out]; exact TL2.out.below (HB.out.bel.drew))).mono ?_; rintro e w11 ⟨v11, rfl, ow11, hb11⟩)
                obtain ⟨a11, c11, rfl⟩ := own_lenH ow11
                have OW11 := Kp.mk ow11
                have HB11 := Kp.mk (HB.out.call ((Below.refl _ _).drew.trans hb11))
                have N11 := Kp.mk ((hb11.block w9.heap.size (by simp)).trans N9.out)
                have e5 := blk_cell (i := 5) N11.out rfl
                have g5 := blk_free (i := 5) N11.out
                clear hb11 ow11
                try go_wp2_with fail
                refine hK.out _ _ (blk_cell (i := 4) HB11.out.b1 rfl) (fun hHeld2 => ?_)
                clear hK K
                try simp only [Act.put, List.setIfInBounds_toArray, List.set_cons_zero, List.set_cons_succ]
                refine wpAnyH_take (i := 5) (oi := ⟨some 47, .move (.tmp 52), _, _, _, none⟩) (v := ?_) rfl (by kernel_rfl) (by kernel_rfl) (by kernel_rfl) (fun _ _ _ h => h) (Or.inl ⟨by rfl, ?_⟩) (by assumption) ?_
                rotate_left
                · intro w hSw
                  try dsimp only at hSw
                  go_simp
                  try with_reducible rfl
                try simp only [Act.put, List.setIfInBounds_toArray, List.set_cons_zero, List.set_cons_succ]
                refine wpAnyH_take (i := 6) (oi := ⟨some 53, .extract (.tmp 47) 0, _, _, _, none⟩) (v := ?_) rfl (by kernel_rfl) (by kernel_rfl) (by kernel_rfl) (fun _ _ _ h => h) (Or.inl ⟨by rfl, ?_⟩) (by assumption) ?_
                rotate_left
                · intro w hSw
                  try dsimp only at hSw
                  go_simp
                  try with_reducible rfl
                try simp only [Act.put, List.setIfInBounds_toArray, List.set_cons_zero, List.set_cons_succ]
                refine wpAnyH_take (i := 7) (oi := ⟨some 54, .extract (.tmp 47) 1, _, _, _, none⟩) (v := ?_) rfl (by kernel_rfl) (by kernel_rfl) (by kernel_rfl) (fun _ _ _ h => h) (Or.inl ⟨by rfl, ?_⟩) (by assumption) ?_
                rotate_left
                · intro w hSw
                  try dsimp only at hSw
                  go_simp
                  try with_reducible rfl
                try simp only [Act.put, List.setIfInBounds_toArray, List.set_cons_zero, List.set_cons_succ]
                refine wpAnyH_take (i := 8) (oi := ⟨some 55, .fieldAddr 29 (.tmp 9) 5, _, _, _, none⟩) (v := ?_) rfl (by kernel_rfl) (by kernel_rfl) (by kernel_rfl) (fun _ _ _ h => h) (Or.inl ⟨by rfl, ?_⟩) (by assumption) ?_
                rotate_left
                · intro w hSw
                  try dsimp only at hSw
                  go_simp
                  try with_reducible rfl
                try simp only [Act.put, List.setIfInBounds_toArray, List.set_cons_zero, List.set_cons_succ]
                refine wpAnyH_ready (rs := [9]) (by kernel_rfl) (by simp) ?_
                refine AllReadyH.cons (o := ⟨none, _, _, _, _, none⟩) rfl (fun K hK => ?_) AllReadyH.nil
                go_simp
                refine hK.out _ _ (blk_cell (i := 4) (HB11.out.far hw9 5 _).b1 rfl) (fun hHeld2 => ?_)
                clear hK K
                try simp only [Act.put, List.setIfInBounds_toArray, List.set_cons_zero, List.set_cons_succ]
                refine wpAnyH_take (i := 10) (oi := ⟨some 10, .assign (.tmp 54), _, _, _, none⟩) (v := ?_) rfl (by kernel_rfl) (by kernel_rfl) (by kernel_rfl) (fun _ _ _ h => h) (Or.inl ⟨by rfl, ?_⟩) (by assumption) ?_
                rotate_left
                · intro w hSw
                  try dsimp only at hSw
                  go_simp
                  try with_reducible rfl
                try simp only [Act.put, List.setIfInBounds_toArray, List.set_cons_zero, List.set_cons_succ]
                refine wpAnyH_done (by kernel_rfl) ?_ _
                have HB12 := Kp.mk (HB11.out.far hw9 5 (.slice a11 A.length c11))
                have N12 := Kp.mk (blk_set N11.out (i := 5) (.slice a11 A.length c11))
                have OW12 := Kp.mk (own_otherH (b := w9.heap.size) (o := 5) (u := .slice a11 A.length c11) (show w11.ownsRow (w9.heap.size + 1) 67 2 (.slice a11 A.length c11) A.length (fvH A) from own_lowF OW11.out (by simp)) (by omega))
                try go_wp2_with fail
                try go_meet
                exact ⟨.slice a11 A.length c11, rfl, HB12.out, N12.out, OW12.out⟩
              case rest =>
                obtain ⟨v11, rfl, hbx, hn12, how⟩ := hcut
                obtain ⟨a11, c11, rfl⟩ := own_lenH how
                have HB12 := Kp.mk hbx
                have N12 := Kp.mk hn12
                have OW12 := Kp.mk how
                clear hbx hn12 how HB N9 l1 l4 z0 z1 z2 z3 z4 z5 f0 f1 f2 f3 f4 f5
                have l1 := blk_cell (i := 1) HB12.out.b1 rfl
                have l4 := blk_cell (i := 4) HB12.out.b1 rfl
                have z0 := blk_cell (i := 0) HB12.out.b2 rfl
                have z1 := blk_cell (i := 1) HB12.out.b2 rfl
                have z2 := blk_cell (i := 2) HB12.out.b2 rfl
                have z3 := blk_cell (i := 3) HB12.out.b2 rfl
                have z4 := blk_cell (i := 4) HB12.out.b2 rfl
                have z5 := blk_cell (i := 5) HB12.out.b2 rfl
                have f0 := blk_free (i := 0) HB12.out.b2
                have f1 := blk_free (i := 1) HB12.out.b2
                have f2 := blk_free (i := 2) HB12.out.b2
                have f3 := blk_free (i := 3) HB12.out.b2
                have f4 := blk_free (i := 4) HB12.out.b2
                have f5 := blk_free (i := 5) HB12.out.b2
                have n0 := blk_cell (i := 0) N12.out rfl
                have n1 := blk_cell (i := 1) N12.out rfl
                have n2 := blk_cell (i := 2) N12.out rfl
                have n3 := blk_cell (i := 3) N12.out rfl
                have n4 := blk_cell (i := 4) N12.out rfl
                have n5 := blk_cell (i := 5) N12.out rfl
                by_cases hae : ae = 0
                · subst hae
                  have HS := Kp.mk (HS4.out rfl)
                  go_upto_region 16 with fail
                  repeat ((fail_if_success (with_reducible show Oper.wp _ (Oper.mk _ (.load _ _) _ _ _ _) _ _ _ _)); go_step)
                  refine wp_load_row _ _ (by rfl) w9.heap.size (by rfl) _ _ _ _ N12.out Tryz.underlying29 rfl (by kernel_rfl) ?_
                  simp only [Act.put]
                  repeat ((fail_if_success (with_reducible show Oper.wp _ (Oper.mk _ (.store _ _ _) _ _ _ _) _ _ _ _)); go_step)
                  refine wp_store_row _ _ _ (by rfl) _ #[.string m9, .string t9, .int .i64 mi9, .int .i64 st9, .string r9, .slice a11 A.length c11] (by rfl) (by rfl) _ _ HB12.out.b2 (by kernel_rfl) rfl (by simp [Value.oneCell']) ?_
                  go_wp2_with fail
                  refine bodyPost_ret (v := .tuple #[.agg #[.string m9, .string t9, .int .i64 mi9, .int .i64 st9, .string r9, .slice a11 A.length c11], .int .i64 0]) ?_ rfl ⟨.slice a11 A.length c11, by rw [HS.out] <;> rfl, by rw [HS.out]; exact own_lowF (B := _) (own_setRowH OW12.out (by omega) _) (by omega), below_setRow HB12.out.bel (by omega) _⟩
                  exact res_hd (p := 6) (q := 7) (ty := 29) (by kernel_rfl) _ _ (w.heap.size + 1) _ _ _ _ _ (by rfl) (by rfl) (setRow_heap _ _ _ _ _ _ HB12.out.b2) Tryz.underlying29 rfl (by kernel_rfl)
                · have HS := Kp.mk (HS3.out hae)
                  have hae2 : (ae != 0) = true := by rw [bne_iff_ne]; exact hae
                  go_wp2_with fail
                  have HZ := HB12.out.put (.string ⟨#[]⟩) (.string ⟨#[]⟩) (.int .i64 0) (.int .i64 0) (.string ⟨#[]⟩) (.slice none 0 0)
                  have y0 := blk_cell (i := 0) HZ.b2 rfl
                  have y1 := blk_cell (i := 1) HZ.b2 rfl
                  have y2 := blk_cell (i := 2) HZ.b2 rfl
                  have y3 := blk_cell (i := 3) HZ.b2 rfl
                  have y4 := blk_cell (i := 4) HZ.b2 rfl
                  have y5 := blk_cell (i := 5) HZ.b2 rfl
                  exact bodyPost_ret (v := .tuple #[.agg #[.string ⟨#[]⟩, .string ⟨#[]⟩, .int .i64 0, .int .i64 0, .string ⟨#[]⟩, .slice none 0 0], .int .i64 ae]) (by simp [results, Tryz.results9, go_sem, y0, y1, y2, y3, y4, y5]) rfl ⟨.slice none 0 0, by rw [HS.out] <;> rfl, by rw [HS.out]; exact World.ownsRow_nil _ _ _ _, HZ.bel⟩
        · have HS := Kp.mk (HS1.out he)
          have he2 : (fe != 0) = true := by rw [bne_iff_ne]; exact he
          go_wp2_with fail
          have HZ := HB.out.put (.string ⟨#[]⟩) (.string ⟨#[]⟩) (.int .i64 0) (.int .i64 0) (.string ⟨#[]⟩) (.slice none 0 0)
          have y0 := blk_cell (i := 0) HZ.b2 rfl
          have y1 := blk_cell (i := 1) HZ.b2 rfl
          have y2 := blk_cell (i := 2) HZ.b2 rfl
          have y3 := blk_cell (i := 3) HZ.b2 rfl
          have y4 := blk_cell (i := 4) HZ.b2 rfl
          have y5 := blk_cell (i := 5) HZ.b2 rfl
          exact bodyPost_ret (v := .tuple #[.agg #[.string ⟨#[]⟩, .string ⟨#[]⟩, .int .i64 0, .int .i64 0, .string ⟨#[]⟩, .slice none 0 0], .int .i64 fe]) (by simp [results, Tryz.results9, go_sem, y0, y1, y2, y3, y4, y5]) rfl ⟨.slice none 0 0, by rw [HS.out] <;> rfl, by rw [HS.out]; exact World.ownsRow_nil _ _ _ _, HZ.bel⟩
end Go.Proofs.YtcbfhlnnfnpkdaaGreatDoor
