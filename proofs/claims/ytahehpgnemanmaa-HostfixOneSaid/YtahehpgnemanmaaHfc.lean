/- Where a request goes (layer 32): the example, the laws HostfixFixes and HostfixOne. -/
import Derived.Test.YtahehpgnemanmaaHfb
import Derived.Test.YtahehpgnemanmaaHoh
import Derived.Test.YtahehpgnemanmaaQs
namespace Go.Proofs.Ytahehpgnemanmaa
open Go.RowKit
set_option linter.unusedVariables false
set_option linter.unusedSimpArgs false

theorem sameL_hf {α : Type} [DecidableEq α] (l : List α) : sameL l l = true := decide_eq_true rfl
theorem hfSet_sm (nm y : ByteArray) (hy : y.size ≤ 100000) : ∀ (l s : List Fld) (b : Bool), (∀ p ∈ s, FldSm p) → (∀ p ∈ l, FldSm p) → ∀ p ∈ (l.foldl (setStep nm y) (s, b)).1, FldSm p
  | [], s, b, h, _ => h
  | p :: r, s, b, h, hl => by
    rw [List.foldl_cons]
    obtain ⟨x, z⟩ := p
    have hq := hl (x, z) (by simp)
    have hr : ∀ p ∈ r, FldSm p := fun p hp => hl p (by simp [hp])
    cases hf : foldB x nm
    · rw [step_no hf]
      exact hfSet_sm nm y hy r _ _ (fun p hp => by rcases List.mem_append.1 hp with hp | hp; exact h p hp; simp at hp; subst hp; exact hq) hr
    · cases b
      · rw [step_new hf]
        exact hfSet_sm nm y hy r _ _ (fun p hp => by rcases List.mem_append.1 hp with hp | hp; exact h p hp; simp at hp; subst hp; exact ⟨hq.1, hy⟩) hr
      · rw [step_had hf]
        exact hfSet_sm nm y hy r _ _ h hr
theorem hfS_sm {l : List Fld} {nm y : ByteArray} (hl : ∀ p ∈ l, FldSm p) (hn : nm.size ≤ 100000) (hy : y.size ≤ 100000) : ∀ p ∈ hSet l nm y, FldSm p := by
  unfold hSet
  split
  · exact hfSet_sm nm y hy l [] false (by simp) hl
  · intro p hp
    rcases List.mem_append.1 hp with hp | hp
    · exact hl p hp
    · simp at hp; subst hp; exact ⟨hn, hy⟩
theorem hfS_len (l : List Fld) (nm y : ByteArray) : (hSet l nm y).length ≤ l.length + 1 := by
  unfold hSet
  split
  · have := setL_len l nm y; omega
  · simp
theorem hWo_app (a b : List Fld) (ns : List ByteArray) : hWo (a ++ b) ns = hWo a ns ++ hWo b ns := by unfold hWo; rw [List.filter_append]
theorem hWo_yes {x z o : ByteArray} (h : foldB x o = true) : hWo [(x, z)] [o] = [] := by simp [hWo, hHas, h]
theorem fold_tr {x nm o : ByteArray} (h : foldB x nm = true) (ho : foldB nm o = true) : foldB x o = true := by
  simp [foldB] at h ho ⊢
  rw [h, ho]
theorem hfGo_wo (nm y o : ByteArray) (ho : foldB nm o = true) : ∀ (l s : List Fld) (b : Bool), hWo (l.foldl (setStep nm y) (s, b)).1 [o] = hWo s [o] ++ hWo l [o]
  | [], s, b => by simp [hWo]
  | p :: r, s, b => by
    rw [List.foldl_cons]
    obtain ⟨x, z⟩ := p
    have e : hWo ((x, z) :: r) [o] = hWo [(x, z)] [o] ++ hWo r [o] := hWo_app [(x, z)] r [o]
    cases hf : foldB x nm
    · rw [step_no hf, hfGo_wo nm y o ho r, hWo_app, e, List.append_assoc]
    · have hx := fold_tr hf ho
      rw [e, hWo_yes hx, List.nil_append]
      cases b
      · rw [step_new hf, hfGo_wo nm y o ho r, hWo_app, hWo_yes hx, List.append_nil]
      · rw [step_had hf, hfGo_wo nm y o ho r]
theorem hfS_wo (l : List Fld) (nm y o : ByteArray) (ho : foldB nm o = true) : hWo (hSet l nm y) [o] = hWo l [o] := by
  have h := hfGo_wo nm y o ho l [] false
  unfold hSet
  cases hb : (setL l nm y).2
  · simp only [Bool.false_eq_true, if_false]
    rw [hWo_app, hWo_yes ho, List.append_nil]
  · simp only [if_true]
    exact h
theorem hAll_fold {l : List Fld} {a b : ByteArray} (h : foldB a b = true) : hAll l a = hAll l b := by
  unfold hAll
  have : (fun p : Fld => foldB p.1 a) = (fun p : Fld => foldB p.1 b) := by
    funext p
    simp [foldB] at h ⊢
    rw [h]
  rw [this]
def hfhost : ByteArray := ⟨#[104, 111, 115, 116]⟩
theorem hf_fold : foldB hfHost hfhost = true := by decide +kernel
theorem hfGet_set (l : List Fld) (y : ByteArray) : hGet (hSet l hfHost y) hfhost = y ∧ hIs (hSet l hfHost y) hfhost = true := by
  unfold hGet hIs
  rw [← hAll_fold hf_fold, hSet_own]
  exact ⟨rfl, rfl⟩
theorem hWo_ln (l : List Fld) (ns : List ByteArray) : (hWo l ns).length ≤ l.length := List.length_filter_le _ _

/-! ### The example -/
def exF : List Fld := [(hfhost, ⟨#[99]⟩)]
theorem exF_L : hfL exF 2 ⟨#[97, 46, 98]⟩ ⟨#[]⟩ 1 = [(hfhost, ⟨#[97, 46, 98]⟩)] := by decide +kernel
theorem exF_E : hfE exF 2 ⟨#[97, 46, 98]⟩ ⟨#[]⟩ 1 = 0 := by decide +kernel
theorem exF_K : hsK (hfP [] 1 ⟨#[]⟩ ⟨#[65, 58, 56, 48]⟩) = ⟨#[97]⟩ := by decide +kernel
theorem exF_sm : ∀ p ∈ exF, FldSm p := fun p hp => by
  have : p = (hfhost, ⟨#[99]⟩) := by simpa [exF] using hp
  subst this
  exact ⟨by decide, by decide⟩
theorem rdf_mk1 (w : World) (x y : ByteArray) : RdF (w.alloc (.cells #[.string x, .string y] 61)) (.slice (some ⟨w.heap.size, 0, none⟩) 1 1) [(x, y)] :=
  ⟨_, 1, rfl, by simp, by unfold maxLen; omega, fun _ => ⟨w.heap.size, 0, rfl, by simp, fun j hj i hi => by
    have h1 : j = 0 := by simpa using hj
    subst h1
    rcases (show i = 0 ∨ i = 1 by omega) with rfl | rfl
    · exact blk_cell (i := 0) (heap_alloc_new w _) rfl
    · exact blk_cell (i := 1) (heap_alloc_new w _) rfl⟩⟩
set_option maxRecDepth 100000 in
set_option maxHeartbeats 2000000 in
theorem lives32_any (w : World) : Calls Try.prog 18 #[] w fun e w' => e = .returned (.bool true) ∧ Below w.heap.size w w' := by
  have R := Kp.mk (rdf_mk1 w hfhost ⟨#[99]⟩)
  have B0 := Kp.mk ((Below.refl _ w).alloc (Nat.le_refl _) (.cells #[.string hfhost, .string ⟨#[99]⟩] 61))
  have F := Kp.mk (fun w hv => hf_fix_any (.slice (some ⟨(w : World).heap.size, 0, none⟩) 1 1) exF 2 ⟨#[97, 46, 98]⟩ ⟨#[47]⟩ ⟨#[]⟩ 1 (w.alloc (.cells #[.string hfhost, .string ⟨#[99]⟩] 61)) hv exF_sm (by decide) (by decide) (by decide))
  have K := Kp.mk (fun w => hf_key_any (.slice none 0 0) [] 1 ⟨#[]⟩ ⟨#[]⟩ ⟨#[65, 58, 56, 48]⟩ w (RdL.nil (by unfold maxLen; omega)) (by simp) (by simp) (by decide) (by decide))
  unfold RetFx at F
  rw [exF_L, exF_E] at F
  rw [exF_K] at K
  go_enter Try.func18, Try.ntmps18
  go_wp2_with fail
  refine (F.out _ R.out).mono ?_
  rintro e w1 ⟨u, rfl, ho, hb⟩
  have HB := Kp.mk (B0.out.trans (hb.mono B0.out.size))
  have HR := Kp.mk (rdf_own ho)
  obtain ⟨a, c, rfl⟩ := own_lenH ho
  clear ho hb
  obtain ⟨g, o, rfl, hgl, d0⟩ := rdf_cells HR.out (by decide)
  obtain ⟨c1, c2⟩ := d0 0 (by decide)
  simp only [Nat.zero_mul, Nat.add_zero] at c1 c2
  replace c1 : w1.cell? ⟨g, o, none⟩ = some (.string hfhost) := c1
  replace c2 : w1.cell? ⟨g, o + 1, none⟩ = some (.string ⟨#[97, 46, 98]⟩) := c2
  have hz : hfhost.toList = [104, 111, 115, 116] := by decide +kernel
  clear d0
  go_wp2_with fail
  refine (K.out _).mono ?_
  rintro e w2 ⟨rfl, hb⟩
  have HB2 := Kp.mk (HB.out.trans (hb.mono HB.out.size))
  clear hb
  go_wp2_with fail
  go_ret
  exact ⟨rfl, HB2.out⟩
/-! ### The laws -/
/-- What the laws' walks keep: the two structs' blocks. -/
structure HfX (fm : Int) (au pa xa : ByteArray) (tm : Int) (w W : World) : Prop where
  b1 : W.heap[w.heap.size]? = some (.cells #[.int .i64 fm, .string au, .string pa] 34 (0, 0))
  b2 : W.heap[w.heap.size + 1]? = some (.cells #[.string xa, .int .i64 tm] 36 (0, 0))
  bel : Below w.heap.size w W
theorem HfX.new (fm : Int) (au pa xa : ByteArray) (tm : Int) (w : World) : HfX fm au pa xa tm w ((w.alloc (.cells #[.int .i64 fm, .string au, .string pa] 34)).alloc (.cells #[.string xa, .int .i64 tm] 36)) :=
  ⟨two_k1 _ _ _, two_k2 _ _ _, two_below _ _ _⟩
theorem HfX.below {fm : Int} {au pa xa : ByteArray} {tm : Int} {w W W2 : World} (h : HfX fm au pa xa tm w W) (hb : Below W.heap.size W W2) : HfX fm au pa xa tm w W2 :=
  ⟨(hb.block _ (blk_lt h.b1)).trans h.b1, (hb.block _ (blk_lt h.b2)).trans h.b2, h.bel.trans (hb.mono h.bel.size)⟩
theorem HfX.cells {fm : Int} {au pa xa : ByteArray} {tm : Int} {w W : World} (h : HfX fm au pa xa tm w W) :
    W.cell? ⟨w.heap.size, 0, none⟩ = some (.int .i64 fm) ∧ W.cell? ⟨w.heap.size, 1, none⟩ = some (.string au) ∧ W.cell? ⟨w.heap.size, 2, none⟩ = some (.string pa) ∧
    W.cell? ⟨w.heap.size + 1, 0, none⟩ = some (.string xa) ∧ W.cell? ⟨w.heap.size + 1, 1, none⟩ = some (.int .i64 tm) :=
  ⟨blk_cell (i := 0) h.b1 rfl, blk_cell (i := 1) h.b1 rfl, blk_cell (i := 2) h.b1 rfl, blk_cell (i := 0) h.b2 rfl, blk_cell (i := 1) h.b2 rfl⟩
/-- .. and the two rows that were made. -/
structure HfY (fm : Int) (au pa xa : ByteArray) (tm : Int) (v v1 v2 : Value) (l m : List Fld) (w W : World) : Prop where
  x : HfX fm au pa xa tm w W
  r : RdF W v l
  r1 : RdF W v1 m
  r2 : RdF W v2 m
theorem HfY.below {fm : Int} {au pa xa : ByteArray} {tm : Int} {v v1 v2 : Value} {l m : List Fld} {w W W2 : World} (h : HfY fm au pa xa tm v v1 v2 l m w W) (hb : Below W.heap.size W W2) : HfY fm au pa xa tm v v1 v2 l m w W2 :=
  ⟨h.x.below hb, h.r.below hb, h.r1.below hb, h.r2.below hb⟩
theorem hfL_len (l : List Fld) (fm : Int) (au a : ByteArray) (tm : Int) : (hfL l fm au a tm).length ≤ l.length + 1 := by
  unfold hfL
  split
  · exact Nat.zero_le _
  · split
    · have := hWo_ln l [hfHost]; omega
    · exact hfS_len _ _ _
set_option maxRecDepth 100000 in
set_option maxHeartbeats 8000000 in
theorem hffix_walk (v : Value) (l : List Fld) (fm : Int) (au pa xa : ByteArray) (tm : Int) (w : World) (hv : RdF w v l) (hz : ∀ p ∈ l, FldOk p) (ha : au.size ≤ maxLen) (hp : pa.size ≤ maxLen) (hx : xa.size ≤ maxLen) :
    Calls Try.prog 6 #[v, .agg #[.int .i64 fm, .string au, .string pa], .agg #[.string xa, .int .i64 tm]] w fun e w' => e = .returned (.bool true) ∧ Below w.heap.size w w' := by
  unfold maxLen at ha hp hx
  have X0 := Kp.mk (HfX.new fm au pa xa tm w)
  have HV := Kp.mk hv
  have f1 := few10_any v l _ (hv.below X0.out.bel) hz
  have HF1 := Kp.mk f1
  clear f1 hz
  obtain ⟨ad, cap, rfl, -, -, -⟩ := hv
  cases hfl : hFew l
  · rw [hfl] at HF1
    go_enter Try.func6, Try.ntmps6
    go_wp2_with fail
    refine HF1.out.mono ?_
    rintro e w1 ⟨rfl, hb⟩
    have HB1 := Kp.mk (X0.out.bel.trans (hb.mono X0.out.bel.size))
    clear hb
    go_wp2_with fail
    refine (lives32_any _).mono ?_
    rintro e w9 ⟨rfl, hb9⟩
    have HB9 := Kp.mk (HB1.out.trans (hb9.mono HB1.out.size))
    clear hb9
    go_wp2_with fail
    go_ret
    exact ⟨rfl, HB9.out⟩
  · rw [hfl] at HF1
    obtain ⟨hl, hsm⟩ := hFew_out hfl
    have HSM := Kp.mk hsm
    clear hsm hfl
    go_enter Try.func6, Try.ntmps6
    go_wp2_with fail
    refine HF1.out.mono ?_
    rintro e w1 ⟨rfl, hb⟩
    have X1 := Kp.mk (X0.out.below hb)
    obtain ⟨c0, c1, c2, c3, c4⟩ := X1.out.cells
    clear hb
    by_cases g1 : au.size ≤ 300
    · by_cases g2 : pa.size ≤ 300
      · by_cases g3 : xa.size ≤ 300
        · have q1 : ¬ (300 : Int) < (au.size : Int) := by omega
          have q2 : ¬ (300 : Int) < (pa.size : Int) := by omega
          have q3 : ¬ (300 : Int) < (xa.size : Int) := by omega
          have hfl := hfL_len l fm au xa tm
          have P1 := Kp.mk (fun w hv => hf_fix_any (.slice ad l.length cap) l fm au pa xa tm w hv HSM.out (by omega) (by omega) (by omega))
          have P2 := Kp.mk (fun w hv => rhf_fix_any (.slice ad l.length cap) l fm au pa xa tm w hv HSM.out (by omega) (by omega) (by omega))
          have P3 := Kp.mk (fun w hv => hf_place_any (.slice ad l.length cap) l fm au pa xa w hv HSM.out (by omega))
          have P4 := Kp.mk (fun w hv => rhf_place_any (.slice ad l.length cap) l fm au pa xa w hv HSM.out (by omega))
          have P5 := Kp.mk (fun w hv => hf_key_any (.slice ad l.length cap) l fm au pa xa w hv HSM.out (by omega) (by omega) (by omega))
          have P6 := Kp.mk (fun w hv => rhf_key_any (.slice ad l.length cap) l fm au pa xa w hv HSM.out (by omega) (by omega) (by omega))
          unfold RetFx at P1 P2
          generalize hfL l fm au xa tm = M at *
          generalize hfE l fm au xa tm = E at *
          generalize hsK (hfP l fm au xa) = K at *
          generalize hfP l fm au xa = S at *
          have h8 : (E == E) = true := by simp
          go_wp2_with fail
          refine (P1.out _ (HV.out.below X1.out.bel)).mono ?_
          rintro e w2 ⟨u1, rfl, ho, hb⟩
          have X2 := Kp.mk (X1.out.below hb)
          obtain ⟨c0, c1, c2, c3, c4⟩ := X2.out.cells
          have RA := Kp.mk (rdf_own ho)
          obtain ⟨a1, k1, rfl⟩ := own_lenH ho
          clear ho hb
          go_wp2_with fail
          refine (P2.out _ (HV.out.below X2.out.bel)).mono ?_
          rintro e w3 ⟨u2, rfl, ho, hb⟩
          have X3 := Kp.mk (X2.out.below hb)
          have RB := Kp.mk (rdf_own ho)
          have RA3 := Kp.mk (RA.out.below hb)
          obtain ⟨a2, k2, rfl⟩ := own_lenH ho
          clear ho hb
          have Y := Kp.mk (show HfY fm au pa xa tm (.slice ad l.length cap) (.slice a1 M.length k1) (.slice a2 M.length k2) l M w w3 from ⟨X3.out, HV.out.below X3.out.bel, RA3.out, RB.out⟩)
          have HD := Kp.mk (Y.out.below (gdrewN _ 1))
          have p0 := fun p : InS (HfY fm au pa xa tm (.slice ad l.length cap) (.slice a1 M.length k1) (.slice a2 M.length k2) l M w) => p.ok.x.cells.1
          have p1 := fun p : InS (HfY fm au pa xa tm (.slice ad l.length cap) (.slice a1 M.length k1) (.slice a2 M.length k2) l M w) => p.ok.x.cells.2.1
          have p2 := fun p : InS (HfY fm au pa xa tm (.slice ad l.length cap) (.slice a1 M.length k1) (.slice a2 M.length k2) l M w) => p.ok.x.cells.2.2.1
          have p3 := fun p : InS (HfY fm au pa xa tm (.slice ad l.length cap) (.slice a1 M.length k1) (.slice a2 M.length k2) l M w) => p.ok.x.cells.2.2.2.1
          have p4 := fun p : InS (HfY fm au pa xa tm (.slice ad l.length cap) (.slice a1 M.length k1) (.slice a2 M.length k2) l M w) => p.ok.x.cells.2.2.2.2
          haveI hne : Nonempty (InS (HfY fm au pa xa tm (.slice ad l.length cap) (.slice a1 M.length k1) (.slice a2 M.length k2) l M w)) := ⟨⟨_, Y.out⟩⟩
          go_wp2_with fail
          refine region_in _ (by kernel_rfl) (by kernel_rfl) HD.out ?_
          repeat (go_big_quiet_step (first
            | (go_at_call 21; exact call_in fun w h => (rfsame_any _ _ M M w h.r1 h.r2 (by omega) (by omega)).mono fun _ _ h2 => ⟨h2.1.trans (by rw [sameL_hf]), h.below h2.2⟩)
            | (go_at_call 22; exact call_in fun w h => (P3.out w h.r).mono fun _ _ h2 => ⟨h2.1, h.below h2.2⟩)
            | (go_at_call 23; exact call_in fun w h => (P4.out w h.r).mono fun _ _ h2 => ⟨h2.1, h.below h2.2⟩)
            | (go_at_call 24; exact call_in fun w h => (P5.out w h.r).mono fun _ _ h2 => ⟨h2.1, h.below h2.2⟩)
            | (go_at_call 25; exact call_in fun w h => (P6.out w h.r).mono fun _ _ h2 => ⟨h2.1, h.below h2.2⟩)
            | (go_at_call 18; exact call_in fun w h => (lives32_any w).mono fun _ _ h2 => ⟨h2.1, h.below h2.2⟩)))
          refine wpQuiet_nil ?_
          intro _ hw'
          obtain ⟨wq, rfl⟩ := hw'
          have HQ := Kp.mk wq.ok.x.bel
          go_wp2_with fail
          go_ret
          exact ⟨rfl, HQ.out⟩
        · have q1 : ¬ (300 : Int) < (au.size : Int) := by omega
          have q2 : ¬ (300 : Int) < (pa.size : Int) := by omega
          have q3 : (300 : Int) < (xa.size : Int) := by omega
          go_wp2_with fail
          refine (lives32_any _).mono ?_
          rintro e w9 ⟨rfl, hb9⟩
          have HB9 := Kp.mk (X1.out.bel.trans (hb9.mono X1.out.bel.size))
          clear hb9
          go_wp2_with fail
          go_ret
          exact ⟨rfl, HB9.out⟩
      · have q1 : ¬ (300 : Int) < (au.size : Int) := by omega
        have q2 : (300 : Int) < (pa.size : Int) := by omega
        go_wp2_with fail
        refine (lives32_any _).mono ?_
        rintro e w9 ⟨rfl, hb9⟩
        have HB9 := Kp.mk (X1.out.bel.trans (hb9.mono X1.out.bel.size))
        clear hb9
        go_wp2_with fail
        go_ret
        exact ⟨rfl, HB9.out⟩
    · have q1 : (300 : Int) < (au.size : Int) := by omega
      go_wp2_with fail
      refine (lives32_any _).mono ?_
      rintro e w9 ⟨rfl, hb9⟩
      have HB9 := Kp.mk (X1.out.bel.trans (hb9.mono X1.out.bel.size))
      clear hb9
      go_wp2_with fail
      go_ret
      exact ⟨rfl, HB9.out⟩
set_option maxRecDepth 100000 in
set_option maxHeartbeats 8000000 in
theorem hfone_walk (v : Value) (l : List Fld) (fm : Int) (au pa xa : ByteArray) (tm : Int) (w : World) (hv : RdF w v l) (hz : ∀ p ∈ l, FldOk p) (ha : au.size ≤ maxLen) (hp : pa.size ≤ maxLen) (hx : xa.size ≤ maxLen) :
    Calls Try.prog 7 #[v, .agg #[.int .i64 fm, .string au, .string pa], .agg #[.string xa, .int .i64 tm]] w fun e w' => e = .returned (.bool true) ∧ Below w.heap.size w w' := by
  unfold maxLen at ha hp hx
  have X0 := Kp.mk (HfX.new fm au pa xa tm w)
  have HV := Kp.mk hv
  have f1 := few10_any v l _ (hv.below X0.out.bel) hz
  have HF1 := Kp.mk f1
  clear f1 hz
  obtain ⟨ad, cap, rfl, -, -, -⟩ := hv
  cases hfl : hFew l
  · rw [hfl] at HF1
    go_enter Try.func7, Try.ntmps7
    go_wp2_with fail
    refine HF1.out.mono ?_
    rintro e w1 ⟨rfl, hb⟩
    have HB1 := Kp.mk (X0.out.bel.trans (hb.mono X0.out.bel.size))
    clear hb
    go_wp2_with fail
    refine (lives32_any _).mono ?_
    rintro e w9 ⟨rfl, hb9⟩
    have HB9 := Kp.mk (HB1.out.trans (hb9.mono HB1.out.size))
    clear hb9
    go_wp2_with fail
    go_ret
    exact ⟨rfl, HB9.out⟩
  · rw [hfl] at HF1
    obtain ⟨hl, hsm⟩ := hFew_out hfl
    have HSM := Kp.mk hsm
    clear hsm hfl
    go_enter Try.func7, Try.ntmps7
    go_wp2_with fail
    refine HF1.out.mono ?_
    rintro e w1 ⟨rfl, hb⟩
    have X1 := Kp.mk (X0.out.below hb)
    obtain ⟨c0, c1, c2, c3, c4⟩ := X1.out.cells
    clear hb
    by_cases g1 : au.size ≤ 300
    · by_cases g2 : pa.size ≤ 300
      · by_cases g3 : xa.size ≤ 300
        · have q1 : ¬ (300 : Int) < (au.size : Int) := by omega
          have q2 : ¬ (300 : Int) < (pa.size : Int) := by omega
          have q3 : ¬ (300 : Int) < (xa.size : Int) := by omega
          have P1 := Kp.mk (fun w hv => hf_fix_any (.slice ad l.length cap) l fm au pa xa 1 w hv HSM.out (by omega) (by omega) (by omega))
          have P5 := Kp.mk (fun w hv => hf_key_any (.slice ad l.length cap) l fm au pa xa w hv HSM.out (by omega) (by omega) (by omega))
          have hps := hfP_sm (l := l) (fm := fm) (au := au) (a := xa) HSM.out (by omega) (by omega)
          unfold RetFx at P1
          by_cases hE : hsE (hfP l fm au xa) = 0
          · have h0 : (hfP l fm au xa).size ≠ 0 := fun e => by
              unfold hsE at hE
              rw [if_pos e] at hE
              cases hE
            have eE : hfE l fm au xa 1 = 0 := by unfold hfE; rw [if_neg (fun h => h.2 hE)]
            have eL : hfL l fm au xa 1 = hSet l hfHost (hfP l fm au xa) := by unfold hfL; rw [if_neg (fun h => h.2 hE), if_neg h0]
            rw [eE, eL] at P1
            have hG := hfGet_set l (hfP l fm au xa)
            have hC : (hAll (hSet l hfHost (hfP l fm au xa)) hfHost).length = 1 := by rw [hSet_own]; rfl
            have hW := hfS_wo l hfHost (hfP l fm au xa) hfhost hf_fold
            have hln := hfS_len l hfHost (hfP l fm au xa)
            have SM2 := Kp.mk (hfS_sm (l := l) (nm := hfHost) (y := hfP l fm au xa) HSM.out (by decide) hps)
            have hwl := hWo_ln l [hfhost]
            have PK := Kp.mk (fun w => hs_key_any (hfP l fm au xa) w (by omega))
            rw [show hsKR (hfP l fm au xa) = .tuple #[.string (hsK (hfP l fm au xa)), .bool true] by unfold hsKR; rw [hE]; rfl] at PK
            clear hE h0 eE eL
            generalize hsK (hfP l fm au xa) = K at *
            generalize hfP l fm au xa = S at *
            generalize hSet l hfHost S = M at *
            have PG := Kp.mk (fun v w hv => hget_any v M hfhost w hv SM2.out (by omega) (by decide))
            rw [hG.1, hG.2] at PG
            have PC := Kp.mk (fun v w hv => hcount_any v M hfHost w hv SM2.out (by omega) (by decide))
            rw [hC] at PC
            have PW1 := Kp.mk (fun v v2 w hv hv2 => hwo_any v v2 M [hfhost] w hv hv2 SM2.out (by simp; decide) (by omega) (by simp))
            have PW2 := Kp.mk (fun v2 w hv hv2 => hwo_any (.slice ad l.length cap) v2 l [hfhost] w hv hv2 HSM.out (by simp; decide) (by omega) (by simp))
            unfold RetF at PW1 PW2
            rw [hW] at PW1
            generalize hWo l [hfhost] = WL at *
            clear hG hC hW
            go_wp2_with fail
            refine (P1.out _ (HV.out.below X1.out.bel)).mono ?_
            rintro e w2 ⟨u1, rfl, ho, hb⟩
            have X2 := Kp.mk (X1.out.below hb)
            have RA := Kp.mk (rdf_own ho)
            obtain ⟨a1, k1, rfl⟩ := own_lenH ho
            clear ho hb
            go_wp2_with fail
            refine (PG.out _ _ RA.out).mono ?_
            rintro e w3 ⟨rfl, hb⟩
            have X3 := Kp.mk (X2.out.below hb)
            have RA3 := Kp.mk (RA.out.below hb)
            clear hb
            go_wp2_with fail
            refine (PK.out _).mono ?_
            rintro e w4 ⟨rfl, hb⟩
            have X4 := Kp.mk (X3.out.below hb)
            have RA4 := Kp.mk (RA3.out.below hb)
            clear hb
            go_wp2_with fail
            refine (PC.out _ _ RA4.out).mono ?_
            rintro e w5 ⟨rfl, hb⟩
            have X5 := Kp.mk (X4.out.below hb)
            have RA5 := Kp.mk (RA4.out.below hb)
            obtain ⟨c0, c1, c2, c3, c4⟩ := X5.out.cells
            clear hb
            go_wp2_with fail
            refine (P5.out _ (HV.out.below X5.out.bel)).mono ?_
            rintro e w6 ⟨rfl, hb⟩
            have X6 := Kp.mk (X5.out.below hb)
            have RA6 := Kp.mk (RA5.out.below hb)
            have RS := Kp.mk (rds_mk1 w6 hfhost)
            have BS := Kp.mk ((Below.refl _ w6).alloc (Nat.le_refl _) (.cells #[.string hfhost] 9))
            clear hb
            go_wp2_with fail
            refine (PW1.out _ _ _ (RA6.out.below BS.out) RS.out).mono ?_
            rintro e w7 ⟨u2, rfl, ho, hb⟩
            have X7 := Kp.mk ((X6.out.below BS.out).below hb)
            have RB := Kp.mk (rdf_own ho)
            obtain ⟨a2, k2, rfl⟩ := own_lenH ho
            have RS2 := Kp.mk (rds_mk1 w7 hfhost)
            have BS2 := Kp.mk ((Below.refl _ w7).alloc (Nat.le_refl _) (.cells #[.string hfhost] 9))
            clear ho hb
            go_wp2_with fail
            refine (PW2.out _ _ ((HV.out.below X7.out.bel).below BS2.out) RS2.out).mono ?_
            rintro e w8 ⟨u3, rfl, ho, hb⟩
            have X8 := Kp.mk ((X7.out.below BS2.out).below hb)
            have RB8 := Kp.mk ((RB.out.below BS2.out).below hb)
            have RC := Kp.mk (rdf_own ho)
            obtain ⟨a3, k3, rfl⟩ := own_lenH ho
            clear ho hb
            go_wp2_with fail
            refine (rfsame_any _ _ WL WL _ RB8.out RC.out (by omega) (by omega)).mono ?_
            rw [sameL_hf]
            rintro e w9 ⟨rfl, hb⟩
            have X9 := Kp.mk (X8.out.below hb)
            clear hb
            go_wp2_with fail
            refine (lives32_any _).mono ?_
            rintro e w10 ⟨rfl, hb9⟩
            have HB9 := Kp.mk (X9.out.bel.trans (hb9.mono X9.out.bel.size))
            clear hb9
            go_wp2_with fail
            go_ret
            exact ⟨rfl, HB9.out⟩
          · have eE : hfE l fm au xa 1 = 13 := by unfold hfE; rw [if_pos ⟨by omega, hE⟩]
            have eL : hfL l fm au xa 1 = [] := by unfold hfL; rw [if_pos ⟨by omega, hE⟩]
            have eK : hsK (hfP l fm au xa) = ⟨#[]⟩ := by unfold hsK; rw [if_neg hE]
            rw [eE, eL] at P1
            rw [eK] at P5
            clear hE eE eL eK
            go_wp2_with fail
            refine (P1.out _ (HV.out.below X1.out.bel)).mono ?_
            rintro e w2 ⟨u1, rfl, ho, hb⟩
            have X2 := Kp.mk (X1.out.below hb)
            obtain ⟨c0, c1, c2, c3, c4⟩ := X2.out.cells
            obtain ⟨a1, k1, rfl⟩ := own_lenH ho
            clear ho hb
            go_wp2_with fail
            refine (P5.out _ (HV.out.below X2.out.bel)).mono ?_
            rintro e w6 ⟨rfl, hb⟩
            have X6 := Kp.mk (X2.out.below hb)
            clear hb
            go_wp2_with fail
            refine (lives32_any _).mono ?_
            rintro e w10 ⟨rfl, hb9⟩
            have HB9 := Kp.mk (X6.out.bel.trans (hb9.mono X6.out.bel.size))
            clear hb9
            go_wp2_with fail
            go_ret
            exact ⟨rfl, HB9.out⟩
        · have q1 : ¬ (300 : Int) < (au.size : Int) := by omega
          have q2 : ¬ (300 : Int) < (pa.size : Int) := by omega
          have q3 : (300 : Int) < (xa.size : Int) := by omega
          go_wp2_with fail
          refine (lives32_any _).mono ?_
          rintro e w9 ⟨rfl, hb9⟩
          have HB9 := Kp.mk (X1.out.bel.trans (hb9.mono X1.out.bel.size))
          clear hb9
          go_wp2_with fail
          go_ret
          exact ⟨rfl, HB9.out⟩
      · have q1 : ¬ (300 : Int) < (au.size : Int) := by omega
        have q2 : (300 : Int) < (pa.size : Int) := by omega
        go_wp2_with fail
        refine (lives32_any _).mono ?_
        rintro e w9 ⟨rfl, hb9⟩
        have HB9 := Kp.mk (X1.out.bel.trans (hb9.mono X1.out.bel.size))
        clear hb9
        go_wp2_with fail
        go_ret
        exact ⟨rfl, HB9.out⟩
    · have q1 : (300 : Int) < (au.size : Int) := by omega
      go_wp2_with fail
      refine (lives32_any _).mono ?_
      rintro e w9 ⟨rfl, hb9⟩
      have HB9 := Kp.mk (X1.out.bel.trans (hb9.mono X1.out.bel.size))
      clear hb9
      go_wp2_with fail
      go_ret
      exact ⟨rfl, HB9.out⟩
set_option maxRecDepth 100000 in
theorem hlist_hf (v : Value) (w : World) (h : Arg Try.prog w 32 v) : ∃ l, RdF w v l ∧ ∀ p ∈ l, FldOk p :=
  h.list (f := fldC) (Q := FldOk) Try.underlying32 Try.fcellsFld (by omega) fun E hE =>
    fld_of Try.underlying61 Try.underlying9 Try.fcellsFld Try.fcellsFs ⟨_, rfl, rfl, rfl⟩ ⟨_, rfl, rfl, rfl⟩ hE
theorem Try.cellsTg : Try.prog.cellsOf 34 = 3 := by kernel_rfl
theorem Try.cellsRo : Try.prog.cellsOf 36 = 2 := by kernel_rfl
theorem Try.cellsIn : Try.prog.cellsOf 3 = 1 := by kernel_rfl
set_option maxRecDepth 100000 in
theorem targ_arg (v : Value) (w : World) (h : Arg Try.prog w 34 v) : ∃ (fm : Int) (au pa : ByteArray), v = .agg #[.int .i64 fm, .string au, .string pa] ∧ au.size ≤ maxLen ∧ pa.size ≤ maxLen := by
  obtain ⟨cs, rfl, hr⟩ := h.struct Try.underlying34
  obtain ⟨hl, hf⟩ := hr.struct Try.underlying34
  rw [Try.cellsTg] at hl
  have f0 : Rdb Try.prog w 3 ((cs.drop 0).take (Try.prog.cellsOf 3)) := hf 0 _ rfl
  rw [Try.cellsIn] at f0
  have f1 : Rdb Try.prog w 9 ((cs.drop 1).take (Try.prog.cellsOf 9)) := hf 1 _ rfl
  rw [Try.fcellsFs] at f1
  have f2 : Rdb Try.prog w 9 ((cs.drop 2).take (Try.prog.cellsOf 9)) := hf 2 _ rfl
  rw [Try.fcellsFs] at f2
  obtain ⟨m, k0, z0⟩ := f0.int Try.underlying3
  obtain ⟨t, k1, z1⟩ := f1.str Try.underlying9
  obtain ⟨r, k2, z2⟩ := f2.str Try.underlying9
  match cs, hl with
  | [x0, x1, x2], _ =>
    simp at k0 k1 k2
    exact ⟨m, t, r, by rw [k0, k1, k2], z1, z2⟩
set_option maxRecDepth 100000 in
theorem route_arg (v : Value) (w : World) (h : Arg Try.prog w 36 v) : ∃ (xa : ByteArray) (tm : Int), v = .agg #[.string xa, .int .i64 tm] ∧ xa.size ≤ maxLen := by
  obtain ⟨cs, rfl, hr⟩ := h.struct Try.underlying36
  obtain ⟨hl, hf⟩ := hr.struct Try.underlying36
  rw [Try.cellsRo] at hl
  have f0 : Rdb Try.prog w 9 ((cs.drop 0).take (Try.prog.cellsOf 9)) := hf 0 _ rfl
  rw [Try.fcellsFs] at f0
  have f1 : Rdb Try.prog w 3 ((cs.drop 1).take (Try.prog.cellsOf 3)) := hf 1 _ rfl
  rw [Try.cellsIn] at f1
  obtain ⟨t, k0, z0⟩ := f0.str Try.underlying9
  obtain ⟨m, k1, z1⟩ := f1.int Try.underlying3
  match cs, hl with
  | [x0, x1], _ =>
    simp at k0 k1
    exact ⟨t, m, by rw [k0, k1], z0⟩
set_option maxRecDepth 100000 in
theorem hffix_arg (v0 v1 v2 : Value) (w : World) (h0 : Arg Try.prog w 32 v0) (h1 : Arg Try.prog w 34 v1) (h2 : Arg Try.prog w 36 v2) :
    Calls Try.prog 6 #[v0, v1, v2] w fun e w' => e = .returned (.bool true) ∧ Below w.heap.size w w' := by
  obtain ⟨l, hv, hz⟩ := hlist_hf v0 w h0
  obtain ⟨fm, au, pa, rfl, ha, hp⟩ := targ_arg v1 w h1
  obtain ⟨xa, tm, rfl, hx⟩ := route_arg v2 w h2
  exact hffix_walk v0 l fm au pa xa tm w hv hz ha hp hx
set_option maxRecDepth 100000 in
theorem hfone_arg (v0 v1 v2 : Value) (w : World) (h0 : Arg Try.prog w 32 v0) (h1 : Arg Try.prog w 34 v1) (h2 : Arg Try.prog w 36 v2) :
    Calls Try.prog 7 #[v0, v1, v2] w fun e w' => e = .returned (.bool true) ∧ Below w.heap.size w w' := by
  obtain ⟨l, hv, hz⟩ := hlist_hf v0 w h0
  obtain ⟨fm, au, pa, rfl, ha, hp⟩ := targ_arg v1 w h1
  obtain ⟨xa, tm, rfl, hx⟩ := route_arg v2 w h2
  exact hfone_walk v0 l fm au pa xa tm w hv hz ha hp hx
end Go.Proofs.Ytahehpgnemanmaa
