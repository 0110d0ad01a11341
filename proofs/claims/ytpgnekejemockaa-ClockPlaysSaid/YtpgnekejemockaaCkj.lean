/- Who is due (layer 41): clocks that are none; lives; the law ClockPlays (bin/mkckj.py). -/
import Derived.Test.YtpgnekejemockaaCki
import Derived.Test.YtpgnekejemockaaOpb
namespace Go.Proofs.Ytpgnekejemockaa
open Go.RowKit
set_option linter.unusedVariables false
set_option linter.unusedSimpArgs false

theorem cset_nil (x k : Int) (w : World) : Calls Try.prog 9 #[.pointer none, .int .i64 x, .int .i64 k] w fun e w' => (∃ v, e = .returned v) ∧ w = w' := by
  go_enter Try.func9, Try.ntmps9
  go_wp2_with fail
  first | go_end0 | refine bodyPost_ret (results_none rfl _ _ _) rfl ?_
  exact ⟨⟨_, rfl⟩, rfl⟩
theorem cstop_nil (x : Int) (w : World) : Calls Try.prog 12 #[.pointer none, .int .i64 x] w fun e w' => (∃ v, e = .returned v) ∧ w = w' := by
  go_enter Try.func12, Try.ntmps12
  go_wp2_with fail
  first | go_end0 | refine bodyPost_ret (results_none rfl _ _ _) rfl ?_
  exact ⟨⟨_, rfl⟩, rfl⟩
theorem cleft_nil (x : Int) (w : World) : Calls Try.prog 13 #[.pointer none, .int .i64 x] w fun e w' => (e = .returned (.tuple #[.int .i64 0, .bool false])) ∧ w = w' := by
  go_enter Try.func13, Try.ntmps13
  go_wp2_with fail
  go_ret2
  exact ⟨rfl, rfl⟩
theorem cnow_nil (w : World) : Calls Try.prog 18 #[.pointer none] w fun e w' => (e = .returned (.int .i64 0)) ∧ w = w' := by
  go_enter Try.func18, Try.ntmps18
  go_wp2_with fail
  go_ret
  exact ⟨rfl, rfl⟩
theorem ctick_nil (k : Int) (w : World) : Calls Try.prog 17 #[.pointer none, .int .i64 k] w fun e w' => e = .returned (.slice none 0 0) ∧ Below w.heap.size w w' := by
  have hbx := heap_alloc_new w (.cells #[.pointer none] 23)
  have cb := blk_cell (i := 0) hbx rfl
  have HB := Kp.mk ((Below.refl _ w).alloc (Nat.le_refl _) (.cells #[.pointer none] 23))
  clear hbx
  go_enter Try.func17, Try.ntmps17
  go_wp2_with fail
  go_ret
  exact ⟨rfl, HB.out⟩

abbrev inC (x : Int) : List Value := [.int .i64 x]
abbrev RdN (w : World) (v : Value) (l : List Int) : Prop := RdL inC 1 w v l
theorem inL_flat (l : List Int) : l.flatMap inC = inL l := by
  unfold inL
  induction l with
  | nil => rfl
  | cons x l ih => rw [List.flatMap_cons, List.map_cons, ih]; rfl
theorem rdn_own {w : World} {B : Nat} {e : TypeId} {v : Value} {l : List Int} (h : w.ownsRow B e 1 v l.length (inL l)) : RdN w v l := RdL.of_own (f := inC) (fun _ => rfl) (by rw [inL_flat]; exact h)
theorem rdn_form {w : World} {v : Value} {l : List Int} (h : RdN w v l) : ∃ a c, v = .slice a l.length c := by
  obtain ⟨a, c, h1, _⟩ := h
  exact ⟨a, c, h1⟩
theorem rdn_cells {w : World} {a : Option Addr} {c n : Nat} {l : List Int} (h : RdN w (.slice a n c) l) (h0 : 0 < l.length) : ∃ b o, a = some ⟨b, o, none⟩ ∧ b < w.heap.size ∧ ∀ (j : Nat) (h : j < l.length), w.cell? ⟨b, o + j, none⟩ = some (.int .i64 l[j]) := by
  obtain ⟨a', c', h1, h2, h3, h4⟩ := h
  cases h1
  obtain ⟨b, o, g1, g2, g3⟩ := h4 h0
  exact ⟨b, o, g1, g2, fun j hj => by have := g3 j hj 0 (by omega); simpa [inC] using this⟩
theorem rdn_one (w : World) (x : Int) (e : TypeId) : RdN (w.alloc (.cells #[.int .i64 x] e)) (.slice (some ⟨w.heap.size, 0, none⟩) 1 1) [x] := by
  have hb := heap_alloc_new w (.cells #[.int .i64 x] e)
  refine ⟨_, 1, rfl, Nat.le_refl _, by decide, fun _ => ⟨w.heap.size, 0, rfl, blk_lt hb, fun j hj i hi => ?_⟩⟩
  simp at hj
  subst hj
  obtain rfl : i = 0 := by omega
  exact blk_cell (i := 0) hb rfl
set_option maxRecDepth 100000 in
theorem sameI_any (v1 v2 : Value) (l1 l2 : List Int) (w : World) (h1 : RdN w v1 l1) (h2 : RdN w v2 l2) (hl : l1.length ≤ 1000000) :
    Calls Try.prog 16 #[v1, v2] w fun e w' => e = .returned (.bool (decide (l1 = l2))) ∧ Below w.heap.size w w' := by
  have H1 := Kp.mk h1
  have H2 := Kp.mk h2
  have HR := Kp.mk (show ∀ r, decide (l1 = l2) = r → (r = true ↔ l1 = l2) from fun r h => by subst h; exact decide_eq_true_iff)
  generalize decide (l1 = l2) = R at *
  obtain ⟨a1, c1, rfl⟩ := rdn_form h1
  obtain ⟨a2, c2, rfl⟩ := rdn_form h2
  clear h1 h2
  by_cases hlen : l1.length = l2.length
  · generalize hn : l1.length = n at *
    have HN := Kp.mk hn
    have HN2 := Kp.mk hlen
    rw [← hlen]
    clear hn hlen
    go_enter Try.func16, Try.ntmps16
    go_wp2_with fail
    go_loopw [5] (fun i wr => ∃ k : Nat, k ≤ n ∧ i = .int .i64 k ∧ l1.take k = l2.take k ∧ ∃ m, wr = w.drewN m) (fun i _ => n - (intOf i).toNat)
    case atStart => exact ⟨0, by omega, rfl, rfl, 0, rfl⟩
    case round =>
      obtain ⟨k, hk, rfl, ht, m, rfl⟩ := hrel
      have HT := Kp.mk ht
      clear ht
      by_cases hlt : k < n
      · have k1 : k < l1.length := by have := HN.out; omega
        have k2 : k < l2.length := by have := HN2.out; omega
        obtain ⟨b1, o1, rfl, z1, d1⟩ := rdn_cells H1.out (by omega)
        obtain ⟨b2, o2, rfl, z2, d2⟩ := rdn_cells H2.out (by omega)
        have e1 := d1 k k1
        have e2 := d2 k k2
        have HX := Kp.mk (show l1[k] = l2[k] → l1.take (k + 1) = l2.take (k + 1) from fun h => by rw [List.take_succ_eq_append_getElem k1, List.take_succ_eq_append_getElem k2, HT.out, h])
        have HY := Kp.mk (show l1 = l2 → l1[k] = l2[k] from fun h => by subst h; rfl)
        have q0 : (0 : Int) ≤ (k : Int) := by omega
        have q1 : (k : Int) < (n : Int) := by omega
        clear d1 d2
        generalize l1[k]'_ = x at *
        generalize l2[k]'_ = y at *
        clear k1 k2
        by_cases hxy : x = y
        · subst hxy
          have b9 : (x != x) = false := by simp
          go_wp2_with fail
          go_quiet (fail)
          go_wp2_with fail
          go_roundw
          case rel => exact ⟨k + 1, by omega, by go_num, HX.out (by trivial), _, rfl⟩
          case measure => simp [intOf]; omega
        · have b9 : (x != y) = true := by simp [hxy]
          have hRf : R = false := by
            cases R
            · rfl
            · exact (hxy (HY.out ((HR.out true rfl).1 rfl))).elim
          subst hRf
          go_wp2_with fail
          go_quiet (fail)
          go_wp2_with fail
          go_ret
          exact ⟨rfl, rfl, rfl, rfl, Nat.le_refl _, fun _ _ => rfl⟩
      · have hRt : R = true := (HR.out R rfl).2 (by
          have h9 := HT.out
          rw [List.take_of_length_le (by have := HN.out; omega), List.take_of_length_le (by have := HN2.out; omega)] at h9
          exact h9)
        subst hRt
        go_wp2_with fail
        go_ret
        exact ⟨rfl, rfl, rfl, rfl, Nat.le_refl _, fun _ _ => rfl⟩
  · have hRf : R = false := by
      cases R
      · rfl
      · exact (hlen (by rw [(HR.out true rfl).1 rfl])).elim
    subst hRf
    have b9 : ((l1.length : Int) != (l2.length : Int)) = true := by simp; omega
    go_enter Try.func16, Try.ntmps16
    go_wp2_with fail
    go_ret
    exact ⟨rfl, Below.refl _ _⟩
theorem sameI_eq (v1 v2 : Value) (l : List Int) (w : World) (h1 : RdN w v1 l) (h2 : RdN w v2 l) (hl : l.length ≤ 1000000) :
    Calls Try.prog 16 #[v1, v2] w fun e w' => e = .returned (.bool true) ∧ Below w.heap.size w w' :=
  (sameI_any v1 v2 l l w h1 h2 hl).mono fun e w' h => ⟨by rw [h.1, decide_eq_true rfl], h.2⟩
/- the example -/
def exF : Int → Option Int := setF (setF (fun _ => none) 1 (0 + tkI 5)) 2 (0 + tkI 3)
theorem exF_at (x v : Int) : exF x = some v ↔ (x = 2 ∧ v = 3) ∨ (x = 1 ∧ v = 5) := by
  have e5 : tkI 5 = 5 := by decide
  have e3 : tkI 3 = 3 := by decide
  unfold exF setF
  rw [e5, e3]
  by_cases h2 : x = 2
  · subst h2; simp; omega
  · by_cases h1 : x = 1
    · subst h1; simp; omega
    · simp [h1, h2]
theorem ex_first {l : List Int} (hp : l.Pairwise (ltW exF)) (hw : ∀ x ∈ l, (Lit.int .i64 x).wf = true) (hm : ∀ x, (Lit.int .i64 x).wf = true → (x ∈ l ↔ ∃ v, exF x = some v ∧ v ≤ 0 + tkI 3)) : l = [2] := by
  have e3 : tkI 3 = 3 := by decide
  rw [e3] at hm
  refine ltW_uniq hp (List.pairwise_singleton ..) fun x => ?_
  rw [List.mem_singleton]
  constructor
  · intro hx
    obtain ⟨v, h1, h2⟩ := (hm x (hw x hx)).1 hx
    rcases (exF_at x v).1 h1 with ⟨e, _⟩ | ⟨_, e⟩ <;> omega
  · rintro rfl
    exact (hm 2 (by decide)).2 ⟨3, (exF_at 2 3).2 (Or.inl ⟨rfl, rfl⟩), by omega⟩
theorem ex_second {l : List Int} (hp : l.Pairwise (ltW (cutF exF (0 + tkI 3)))) (hw : ∀ x ∈ l, (Lit.int .i64 x).wf = true) (hm : ∀ x, (Lit.int .i64 x).wf = true → (x ∈ l ↔ ∃ v, cutF exF (0 + tkI 3) x = some v ∧ v ≤ 0 + tkI 3 + tkI 2)) : l = [1] := by
  have e3 : tkI 3 = 3 := by decide
  have e2 : tkI 2 = 2 := by decide
  refine ltW_uniq hp (List.pairwise_singleton ..) fun x => ?_
  rw [List.mem_singleton]
  rw [e3, e2] at hm
  constructor
  · intro hx
    obtain ⟨v, h1, h2⟩ := (hm x (hw x hx)).1 hx
    obtain ⟨h3, h4⟩ := cutF_some h1
    rcases (exF_at x v).1 h3 with ⟨_, e⟩ | ⟨e, _⟩ <;> omega
  · rintro rfl
    exact (hm 1 (by decide)).2 ⟨5, cutF_gt ((exF_at 1 5).2 (Or.inr ⟨rfl, rfl⟩)) (by omega), by omega⟩
set_option maxRecDepth 100000 in
set_option maxHeartbeats 2000000 in
theorem lives41_any (w : World) : Calls Try.prog 8 #[] w fun e w' => e = .returned (.bool true) ∧ Below w.heap.size w w' := by
  have w1 : (Lit.int .i64 1).wf = true := by decide
  have w2 : (Lit.int .i64 2).wf = true := by decide
  go_enter Try.func8, Try.ntmps8
  go_wp2_with fail
  refine (cnew_any 0 _ (by omega) (by omega)).mono ?_
  rintro e wa ⟨b, m, rfl, hc, hb, hbl, hml⟩
  have HC := Kp.mk hc
  have HB := Kp.mk hb
  clear hc hb
  go_wp2_with fail
  refine (cset_any b m 0 0 _ 1 5 _ HC.out w1 (by unfold maxLen; omega) (by omega)).mono ?_
  rintro e wb ⟨⟨v, rfl⟩, hc, hk⟩
  replace HC := Kp.mk hc
  have HK := Kp.mk hk
  clear hc hk
  go_wp2_with fail
  refine (cset_any b m 1 0 _ 2 3 _ HC.out w2 (by unfold maxLen; omega) (by omega)).mono ?_
  rintro e wc ⟨⟨v, rfl⟩, hc, hk⟩
  replace HC := Kp.mk (show CK b m 2 0 exF wc from hc)
  replace HK := Kp.mk (HK.out.trans hk)
  clear hc hk
  have hbm := blk_lt HC.out.hb
  have hmm := HC.out.mlt
  go_wp2_with fail
  refine (ctick_any b m 2 0 exF 3 _ HC.out (by omega) (by omega)).mono ?_
  rintro e wd ⟨va, la, rfl, ho, hc, hk, hp, hw, hm, hn⟩
  have hl := ex_first hp hw hm
  subst hl
  have HO := Kp.mk ho
  replace HC := Kp.mk hc
  have HK2 := Kp.mk hk
  clear hc hk hp hw hm hn ho
  go_wp2_with fail
  refine (ctick_any b m 2 (0 + tkI 3) _ 2 _ HC.out (by omega) (by have := tkI_in 3; omega)).mono ?_
  rintro e we ⟨vb, lb, rfl, ho, hc, hk, hp, hw, hm, hn⟩
  have hl := ex_second hp hw hm
  subst hl
  have HP := Kp.mk ho
  replace HC := Kp.mk (show CK b m 2 5 _ we from hc)
  have HK3 := Kp.mk hk
  clear hc hk hp hw hm hn ho
  have HOA := Kp.mk (own_kk HO.out HK3.out (fun k hk => by omega))
  have HBE := Kp.mk (show Below w.heap.size w we from by
    have s1 := HB.out.size
    have s2 := HK.out.size
    have s3 := HK2.out.size
    exact ((HB.out.trans (HK.out.below s1 fun k hk => by omega)).trans (HK2.out.below (by omega) fun k hk => by omega)).trans (HK3.out.below (by omega) fun k hk => by omega))
  have HRA := Kp.mk ((rdn_own HOA.out).below ((Below.refl _ _).alloc (Nat.le_refl _) (.cells #[.int .i64 2] 3)))
  have HRL := Kp.mk (rdn_one we 2 3)
  have HBA := Kp.mk (HBE.out.alloc HBE.out.size (.cells #[.int .i64 2] 3))
  have HBA2 := Kp.mk ((Below.refl we.heap.size we).alloc (Nat.le_refl _) (.cells #[.int .i64 2] 3))
  obtain ⟨aa, ca, rfl⟩ := own_lenH HOA.out
  obtain ⟨ab, cb, rfl⟩ := own_lenH HP.out
  clear hbm hmm
  go_wp2_with fail
  refine (sameI_eq _ _ [2] _ HRA.out HRL.out (by simp)).mono ?_
  rintro e wf ⟨rfl, hbf⟩
  have HBF := Kp.mk hbf
  have HCF := Kp.mk ((HC.out.below HBA2.out).below hbf)
  have HPF := Kp.mk ((rdn_own HP.out).below HBA2.out |>.below hbf)
  have HRB := Kp.mk (HPF.out.below ((Below.refl _ _).alloc (Nat.le_refl _) (.cells #[.int .i64 1] 3)))
  have HRM := Kp.mk (rdn_one wf 1 3)
  have HBB := Kp.mk ((HBA.out.trans (hbf.mono HBA.out.size)))
  have HBC := Kp.mk (HBB.out.alloc HBB.out.size (.cells #[.int .i64 1] 3))
  have HCG := Kp.mk (HCF.out.below ((Below.refl _ _).alloc (Nat.le_refl _) (.cells #[.int .i64 1] 3)))
  clear hbf
  go_wp2_with fail
  refine (sameI_eq _ _ [1] _ HRB.out HRM.out (by simp)).mono ?_
  rintro e wg ⟨rfl, hbg⟩
  have HBG := Kp.mk hbg
  have HCH := Kp.mk (HCG.out.below hbg)
  have HBD := Kp.mk ((HBC.out.trans (hbg.mono HBC.out.size)))
  clear hbg
  go_wp2_with fail
  refine (cnow_any b m 2 5 _ _ HCH.out).mono ?_
  rintro e wh ⟨rfl, rfl⟩
  go_wp2_with fail
  go_ret
  exact ⟨rfl, HBD.out⟩
/- the law -/
abbrev CAc := Int × Int × Int
def cactC (p : CAc) : List Value := [.int .i64 p.1, .int .i64 p.2.1, .int .i64 p.2.2]
theorem cact_cells {w : World} {a : Option Addr} {c n : Nat} {l : List CAc} (h : RdL cactC 3 w (.slice a n c) l) (h0 : 0 < l.length) : ∃ b o, a = some ⟨b, o, none⟩ ∧ b < w.heap.size ∧ ∀ (j : Nat) (h : j < l.length), w.cell? ⟨b, o + j * 3, none⟩ = some (.int .i64 l[j].1) ∧ w.cell? ⟨b, o + j * 3 + 1, none⟩ = some (.int .i64 l[j].2.1) ∧ w.cell? ⟨b, o + j * 3 + 2, none⟩ = some (.int .i64 l[j].2.2) := by
  obtain ⟨a', c', h1, h2, h3, h4⟩ := h
  cases h1
  obtain ⟨b, o, g1, g2, g3⟩ := h4 h0
  exact ⟨b, o, g1, g2, fun j hj => ⟨by have := g3 j hj 0 (by omega); simpa [cactC] using this, by have := g3 j hj 1 (by omega); simpa [cactC] using this, by have := g3 j hj 2 (by omega); simpa [cactC] using this⟩⟩
theorem cact_of {P : Program} {w : World} {t ti : TypeId} {fs : Array Field} {E : List Value} (ht : P.underlying t = some (.struct fs)) (hi : P.underlying ti = some (.int .i64)) (hc : P.cellsOf t = 3) (hci : P.cellsOf ti = 1)
    (h0 : ∃ f, fs[0]? = some f ∧ f.type = ti ∧ f.offset = 0) (h1 : ∃ f, fs[1]? = some f ∧ f.type = ti ∧ f.offset = 1) (h2 : ∃ f, fs[2]? = some f ∧ f.type = ti ∧ f.offset = 2) (h : Rdb P w t E) :
    ∃ p : CAc, E = cactC p ∧ ((Lit.int .i64 p.1).wf = true ∧ (Lit.int .i64 p.2.1).wf = true ∧ (Lit.int .i64 p.2.2).wf = true) := by
  obtain ⟨hl, hf⟩ := h.struct ht
  obtain ⟨f0, e0, t0, o0⟩ := h0
  obtain ⟨f1, e1, t1, o1⟩ := h1
  obtain ⟨f2, e2, t2, o2⟩ := h2
  have g0 := hf 0 f0 e0
  have g1 := hf 1 f1 e1
  have g2 := hf 2 f2 e2
  rw [t0, o0, hci] at g0
  rw [t1, o1, hci] at g1
  rw [t2, o2, hci] at g2
  obtain ⟨s0, k0, z0⟩ := g0.int hi
  obtain ⟨s1, k1, z1⟩ := g1.int hi
  obtain ⟨s2, k2, z2⟩ := g2.int hi
  rw [hc] at hl
  match E, hl with
  | [x, y, z], _ =>
    simp at k0 k1 k2
    exact ⟨(s0, s1, s2), by simp [cactC, k0, k1, k2], z0, z1, z2⟩
theorem Try.fcellsCAc : Try.prog.cellsOf 28 = 3 := by kernel_rfl
theorem Try.fcellsCI : Try.prog.cellsOf 3 = 1 := by kernel_rfl
theorem cact_arg (v1 : Value) (w : World) (h1 : Arg Try.prog w 22 v1) : ∃ ps, RdL cactC 3 w v1 ps ∧ ∀ p ∈ ps, (Lit.int .i64 p.1).wf = true ∧ (Lit.int .i64 p.2.1).wf = true ∧ (Lit.int .i64 p.2.2).wf = true :=
  h1.list (f := cactC) (Q := fun p => (Lit.int .i64 p.1).wf = true ∧ (Lit.int .i64 p.2.1).wf = true ∧ (Lit.int .i64 p.2.2).wf = true) Try.underlying22 Try.fcellsCAc (by omega) fun E hE =>
    cact_of Try.underlying28 Try.underlying3 Try.fcellsCAc Try.fcellsCI ⟨_, rfl, rfl, rfl⟩ ⟨_, rfl, rfl, rfl⟩ ⟨_, rfl, rfl, rfl⟩ hE
/-- Rows that are read stay as they are while the clock turns. -/
theorem rdr_keep {b m n : Nat} {now : Int} {F : Int → Option Int} {w w' : World} {v : Value} {X : List Rw} (h : RdR w v X) (hc : CK b m n now F w) (hk : Kpt (fun j => j ≠ b ∧ j ≠ m) w w') : RdR w' v X := by
  obtain ⟨a, c, h1, h2, h3, h4⟩ := h
  refine ⟨a, c, h1, h2, h3, fun h0 => ?_⟩
  obtain ⟨g, o, g1, g2, g3⟩ := h4 h0
  have q0 := g3 0 h0 0 (by omega)
  have q1 := g3 0 h0 1 (by omega)
  simp [rwC] at q0 q1
  have hb : g ≠ b := by
    rintro rfl
    simp only [World.cell?, hc.hb] at q0 q1
    match o, q0, q1 with
    | 0, q0, q1 => simp at q1
    | 1, q0, q1 => simp at q0
    | o + 2, q0, q1 => simp at q0
  have hm : g ≠ m := by
    rintro rfl
    obtain ⟨D, ⟨es, clock, hb9, _⟩, _⟩ := hc.hm
    simp only [World.cell?, hb9] at q0
    simp at q0
  refine ⟨g, o, g1, Nat.lt_of_lt_of_le g2 hk.size, fun j hj i hi => ?_⟩
  have := g3 j hj i hi
  have e := hk.block g g2 ⟨hb, hm⟩
  simp only [World.cell?] at this ⊢
  rw [e]
  exact this
end Go.Proofs.Ytpgnekejemockaa
