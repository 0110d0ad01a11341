/- How lists of lines differ (layer 51): few, same, lives; the law DiffLines. -/
import Derived.Test.YtnpolkpofaamlaaDie
namespace Go.Proofs.Ytnpolkpofaamlaa
open Go.RowKit
set_option linter.unusedVariables false
set_option linter.unusedSimpArgs false

/-- Are there so few lines, and are they so short? -/
def few51 (l : Ln) : Bool := decide (l.length ≤ 25) && l.all (fun s => decide (s.size ≤ 100))
theorem few51_len {l : Ln} (h : few51 l = true) : l.length ≤ 25 ∧ ∀ s ∈ l, s.size ≤ 100 := by
  unfold few51 at h
  rw [Bool.and_eq_true, decide_eq_true_eq, List.all_eq_true] at h
  exact ⟨h.1, fun s hs => of_decide_eq_true (h.2 s hs)⟩
set_option maxRecDepth 100000 in
set_option maxHeartbeats 600000 in
theorem few51_any (v : Value) (l : Ln) (w : World) (hv : RdS w v l) :
    Calls Try.prog 55 #[v] w fun e w' => e = .returned (.bool (few51 l)) ∧ Below w.heap.size w w' := by
  have HV := Kp.mk hv
  obtain ⟨a, c, rfl, hc1, hc2, -⟩ := hv
  have hll : l.length ≤ 9223372036854775807 := by unfold maxLen at hc2; omega
  have HF := Kp.mk (show few51 l = (decide (l.length ≤ 25) && l.all (fun s => decide (s.size ≤ 100))) from rfl)
  generalize few51 l = R at *
  clear hc1 hc2
  by_cases h1 : 25 < l.length
  · have hR : R = false := by rw [HF.out, decide_eq_false (by omega), Bool.false_and]
    subst hR
    have q1 : (25 : Int) < (l.length : Int) := by omega
    go_enter Try.func55, Try.ntmps55
    go_wp2_with fail
    go_ret
    exact ⟨rfl, Below.refl _ _⟩
  · have HF2 := Kp.mk (show R = l.all (fun s => decide (s.size ≤ 100)) by rw [HF.out, decide_eq_true (by omega), Bool.true_and])
    have q1 : ¬ (25 : Int) < (l.length : Int) := by omega
    generalize hn : l.length = n at *
    have HN := Kp.mk hn
    clear hn
    go_enter Try.func55, Try.ntmps55
    go_wp2_with fail
    go_loopw [10] (fun i wr => ∃ k : Nat, k ≤ n ∧ i = .int .i64 k ∧ R = (l.drop k).all (fun s => decide (s.size ≤ 100)) ∧ wr = w) (fun i _ => n - (intOf i).toNat)
    case atStart => exact ⟨0, Nat.zero_le _, rfl, HF2.out, rfl⟩
    case round =>
      obtain ⟨k, hk, rfl, hr, rfl⟩ := hrel
      have HR := Kp.mk hr
      clear hr
      by_cases hlt : k < n
      · have hkl : k < l.length := by have := HN.out; omega
        obtain ⟨g, o, rfl, hg, d⟩ := rds_cells HV.out (by omega)
        have c1 := d k hkl
        have HD := Kp.mk (show R = (decide (l[k].size ≤ 100) && (l.drop (k + 1)).all (fun s => decide (s.size ≤ 100))) by rw [HR.out, List.drop_eq_getElem_cons hkl, List.all_cons])
        have q2 : (k : Int) < (n : Int) := by omega
        clear d
        generalize l[k]'_ = s at *
        clear hkl
        by_cases hs : 100 < s.size
        · have hR : R = false := by rw [HD.out, decide_eq_false (by omega), Bool.false_and]
          subst hR
          have q3 : (100 : Int) < (s.size : Int) := by omega
          go_wp2_with fail
          go_ret
          exact ⟨rfl, Below.refl _ _⟩
        · have HD2 := Kp.mk (show R = (l.drop (k + 1)).all (fun s => decide (s.size ≤ 100)) by rw [HD.out, decide_eq_true (by omega), Bool.true_and])
          have q3 : ¬ (100 : Int) < (s.size : Int) := by omega
          go_wp2_with fail
          go_roundw
          case rel => exact ⟨k + 1, by omega, by go_num, HD2.out, by trivial⟩
          case measure => simp [intOf] <;> omega
      · have hR : R = true := by rw [HR.out, show l.drop k = [] from List.drop_eq_nil_of_le (by have := HN.out; omega)]; rfl
        subst hR
        go_wp2_with fail
        go_ret
        exact ⟨rfl, Below.refl _ _⟩
set_option maxRecDepth 100000 in
set_option maxHeartbeats 600000 in
theorem same51_eq (v1 v2 : Value) (l : List Dr) (w : World) (h1 : RdDr w v1 l) (h2 : RdDr w v2 l) (hl : l.length ≤ 1000000) :
    Calls Try.prog 57 #[v1, v2] w fun e w' => e = .returned (.bool true) ∧ Below w.heap.size w w' := by
  have H1 := Kp.mk h1
  have H2 := Kp.mk h2
  obtain ⟨a1, c1, rfl⟩ := rddr_form h1
  obtain ⟨a2, c2, rfl⟩ := rddr_form h2
  clear h1 h2
  generalize hn : l.length = n at *
  have HN := Kp.mk hn
  clear hn
  go_enter Try.func57, Try.ntmps57
  go_wp2_with fail
  go_loopw [13] (fun i wr => ∃ k : Nat, k ≤ n ∧ i = .int .i64 k ∧ ∃ m, wr = w.drewN m) (fun i _ => n - (intOf i).toNat)
  case atStart => exact ⟨0, by omega, rfl, 0, rfl⟩
  case round =>
    obtain ⟨k, hk, rfl, m, rfl⟩ := hrel
    by_cases hlt : k < n
    · have hkl : k < l.length := by have := HN.out; omega
      obtain ⟨b1, o1, rfl, z1, d1⟩ := rddr_cells H1.out (by omega)
      obtain ⟨b2, o2, rfl, z2, d2⟩ := rddr_cells H2.out (by omega)
      obtain ⟨e1, e3⟩ := d1 k hkl
      obtain ⟨e2, e4⟩ := d2 k hkl
      have q0 : (0 : Int) ≤ (k : Int) := by omega
      have q1 : (k : Int) < (n : Int) := by omega
      clear d1 d2
      generalize l[k]'_ = p at *
      obtain ⟨s, t⟩ := p
      dsimp only at e1 e2 e3 e4
      have b9 : (s != s) = false := by simp
      have b8 : (t.toList != t.toList) = false := by simp
      have b7 : (t.toList == t.toList) = true := by simp
      clear hkl
      go_upto_region 6 with fail
      go_quiet (fail)
      go_wp2_with fail
      go_roundw
      case rel => exact ⟨k + 1, by omega, by go_num, _, rfl⟩
      case measure => simp [intOf] <;> omega
    · go_wp2_with fail
      go_ret
      exact ⟨rfl, rfl, rfl, rfl, Nat.le_refl _, fun _ _ => rfl⟩
def sa : ByteArray := ⟨#[97]⟩
def sb : ByteArray := ⟨#[98]⟩
def sc : ByteArray := ⟨#[99]⟩
theorem ex51 : dfL [sa, sb] [sb, sc] = [(1, sa), (0, sb), (2, sc)] := by
  have h1 : ¬ sa = sb := by decide
  have h2 : ¬ sb = sc := by decide
  have l1 : lcs [sb] [sb, sc] = 1 := by rw [lcs_cons, if_pos rfl, lcs_nil_l]
  have l2 : lcs [sa, sb] [sc] = 0 := by
    have h3 : ¬ sa = sc := by decide
    rw [lcs_cons, if_neg h3, lcs_nil_r, lcs_cons, if_neg h2, lcs_nil_l, lcs_nil_r]
    rfl
  rw [dfL_cons, if_neg h1, l1, l2, if_pos (by omega), dfL_cons, if_pos rfl, dfL_new, dfL_nil]
theorem rds_blk2 {W : World} {b : Nat} {t : TypeId} {x y : ByteArray} (h : W.heap[b]? = some (.cells #[.string x, .string y] t (0, 0))) : RdS W (.slice (some ⟨b, 0, none⟩) 2 2) [x, y] := by
  refine ⟨_, 2, rfl, Nat.le_refl _, by unfold maxLen; omega, fun _ => ⟨b, 0, rfl, blk_lt h, fun j hj i hi => ?_⟩⟩
  obtain rfl : i = 0 := by omega
  simp at hj
  rcases (by omega : j = 0 ∨ j = 1) with rfl | rfl
  · exact blk_cell (i := 0) h rfl
  · exact blk_cell (i := 1) h rfl
theorem rddr_blk3 {W : World} {b : Nat} {t : TypeId} {n1 n2 n3 : Int} {x y z : ByteArray} (h : W.heap[b]? = some (.cells #[.int .i64 n1, .string x, .int .i64 n2, .string y, .int .i64 n3, .string z] t (0, 0))) : RdDr W (.slice (some ⟨b, 0, none⟩) 3 3) [(n1, x), (n2, y), (n3, z)] := by
  refine ⟨_, 3, rfl, Nat.le_refl _, by unfold maxLen; omega, fun _ => ⟨b, 0, rfl, blk_lt h, fun j hj i hi => ?_⟩⟩
  simp at hj
  rcases (by omega : j = 0 ∨ j = 1 ∨ j = 2) with rfl | rfl | rfl <;> rcases (by omega : i = 0 ∨ i = 1) with rfl | rfl
  · exact blk_cell (i := 0) h rfl
  · exact blk_cell (i := 1) h rfl
  · exact blk_cell (i := 2) h rfl
  · exact blk_cell (i := 3) h rfl
  · exact blk_cell (i := 4) h rfl
  · exact blk_cell (i := 5) h rfl
set_option maxRecDepth 100000 in
set_option maxHeartbeats 600000 in
theorem lives51_any (w : World) : Calls Try.prog 56 #[] w fun e w' => e = .returned (.bool true) ∧ Below w.heap.size w w' := by
  have hb1 := heap_alloc_new w (.cells #[.string sa, .string sb] 9)
  have hs1 : (w.alloc (.cells #[.string sa, .string sb] 9)).heap.size = w.heap.size + 1 := World.size_alloc _ _
  have hb2 := heap_alloc_new (w.alloc (.cells #[.string sa, .string sb] 9)) (.cells #[.string sb, .string sc] 9)
  rw [hs1] at hb2
  have R1 := Kp.mk (show RdS ((w.alloc (.cells #[.string sa, .string sb] 9)).alloc (.cells #[.string sb, .string sc] 9)) (.slice (some ⟨w.heap.size, 0, none⟩) 2 2) [sa, sb] from rds_blk2 (blk_alloc hb1))
  have R2 := Kp.mk (rds_blk2 hb2)
  have HB := Kp.mk (((Below.refl w.heap.size w).alloc (Nat.le_refl _) (.cells #[.string sa, .string sb] 9)).alloc (by rw [hs1]; omega) (.cells #[.string sb, .string sc] 9))
  have HL := Kp.mk (dlines_any _ _ [sa, sb] [sb, sc] _ R1.out R2.out (by simp) (by simp))
  rw [ex51] at HL
  clear hb1 hb2 hs1
  unfold sa sb sc at *
  go_enter Try.func56, Try.ntmps56
  go_wp2_with fail
  refine HL.out.mono ?_
  rintro e w1 ⟨v, rfl, ho, hb⟩
  have hA := (Below.refl w1.heap.size w1).alloc (Nat.le_refl _) (.cells #[.int .i64 1, .string ⟨#[97]⟩, .int .i64 0, .string ⟨#[98]⟩, .int .i64 2, .string ⟨#[99]⟩] 100)
  have H1 := Kp.mk (rddr_own (own_kd ho (w' := w1.alloc (.cells #[.int .i64 1, .string ⟨#[97]⟩, .int .i64 0, .string ⟨#[98]⟩, .int .i64 2, .string ⟨#[99]⟩] 100)) fun g _ hg => hA.block g hg))
  have H2 := Kp.mk (rddr_blk3 (heap_alloc_new w1 (.cells #[.int .i64 1, .string ⟨#[97]⟩, .int .i64 0, .string ⟨#[98]⟩, .int .i64 2, .string ⟨#[99]⟩] 100)))
  have HB1 := Kp.mk (HB.out.trans (hb.mono HB.out.size))
  have HB2 := Kp.mk (HB1.out.trans (hA.mono HB1.out.size))
  obtain ⟨av, cv, rfl⟩ := own_lenH ho
  clear ho hb hA
  go_wp2_with fail
  refine (same51_eq _ _ _ _ H1.out H2.out (by simp)).mono ?_
  rintro e w2 ⟨rfl, hb2⟩
  have HB3 := Kp.mk (HB2.out.trans (hb2.mono HB2.out.size))
  go_wp2_with fail
  go_ret
  exact ⟨rfl, HB3.out⟩
theorem rds_keep {w w' : World} {v : Value} {l : Ln} (h : RdS w v l) (hb : Below w.heap.size w w') : RdS w' v l := h.below hb
set_option maxRecDepth 100000 in
set_option maxHeartbeats 600000 in
theorem dlaw_walk (va vb : Value) (a b : Ln) (w : World) (ha : RdS w va a) (hb : RdS w vb b) :
    Calls Try.prog 11 #[va, vb] w fun e w' => e = .returned (.bool true) ∧ Below w.heap.size w w' := by
  have HA := Kp.mk ha
  have HB := Kp.mk hb
  have HFA := Kp.mk (fun w h => few51_any va a w h)
  have HFB := Kp.mk (fun w h => few51_any vb b w h)
  have HLA := Kp.mk (fun h => few51_len (l := a) h)
  have HLB := Kp.mk (fun h => few51_len (l := b) h)
  generalize few51 a = ra at *
  generalize few51 b = rb at *
  clear ha hb
  cases ra
  · go_enter Try.func11, Try.ntmps11
    go_wp2_with fail
    refine (HFA.out _ HA.out).mono ?_
    rintro e w1 ⟨rfl, hb1⟩
    have HB1 := Kp.mk hb1
    clear hb1
    go_wp2_with fail
    refine (lives51_any _).mono ?_
    rintro e w2 ⟨rfl, hb2⟩
    go_wp2_with fail
    go_ret
    exact ⟨rfl, HB1.out.trans (hb2.mono HB1.out.size)⟩
  · cases rb
    · go_enter Try.func11, Try.ntmps11
      go_wp2_with fail
      refine (HFA.out _ HA.out).mono ?_
      rintro e w1 ⟨rfl, hb1⟩
      have HB1 := Kp.mk hb1
      clear hb1
      go_wp2_with fail
      refine (HFB.out _ (HB.out.below HB1.out)).mono ?_
      rintro e w2 ⟨rfl, hb2⟩
      have HB2 := Kp.mk (HB1.out.trans (hb2.mono HB1.out.size))
      clear hb2
      go_wp2_with fail
      refine (lives51_any _).mono ?_
      rintro e w3 ⟨rfl, hb3⟩
      go_wp2_with fail
      go_ret
      exact ⟨rfl, HB2.out.trans (hb3.mono HB2.out.size)⟩
    · have hla := (HLA.out rfl).1
      have hlb := (HLB.out rfl).1
      go_enter Try.func11, Try.ntmps11
      go_wp2_with fail
      refine (HFA.out _ HA.out).mono ?_
      rintro e w1 ⟨rfl, hb1⟩
      have HB1 := Kp.mk hb1
      clear hb1
      go_wp2_with fail
      refine (HFB.out _ (HB.out.below HB1.out)).mono ?_
      rintro e w2 ⟨rfl, hb2⟩
      have HB2 := Kp.mk (HB1.out.trans (hb2.mono HB1.out.size))
      clear hb2
      go_wp2_with fail
      refine (dlines_any _ _ a b _ (HA.out.below HB2.out) (HB.out.below HB2.out) (by omega) (by omega)).mono ?_
      rintro e w3 ⟨v3, rfl, ho3, hb3⟩
      have HO3 := Kp.mk ho3
      have HB3 := Kp.mk (HB2.out.trans (hb3.mono HB2.out.size))
      clear ho3 hb3
      go_wp2_with fail
      refine (rlines_any _ _ a b _ (HA.out.below HB3.out) (HB.out.below HB3.out) (by omega) (by omega)).mono ?_
      rintro e w4 ⟨v4, rfl, ho4, hb4⟩
      have HR3 := Kp.mk (rddr_own (own_kd HO3.out fun g _ hg => hb4.block g hg))
      have HR4 := Kp.mk (rddr_own ho4)
      have HB4 := Kp.mk (HB3.out.trans (hb4.mono HB3.out.size))
      have HLN := Kp.mk (dfL_len a b)
      clear ho4 hb4
      generalize dfL a b = L at *
      go_wp2_with fail
      refine (same51_eq _ _ L _ HR3.out HR4.out (by have := HLN.out; omega)).mono ?_
      rintro e w5 ⟨rfl, hb5⟩
      have HB5 := Kp.mk (HB4.out.trans (hb5.mono HB4.out.size))
      clear hb5
      go_wp2_with fail
      refine (lives51_any _).mono ?_
      rintro e w6 ⟨rfl, hb6⟩
      go_wp2_with fail
      go_ret
      exact ⟨rfl, HB5.out.trans (hb6.mono HB5.out.size)⟩
theorem Try.fcellsDS : Try.prog.cellsOf 9 = 1 := by kernel_rfl
theorem dlaw_arg (v0 v1 : Value) (w : World) (h0 : Arg Try.prog w 84 v0) (h1 : Arg Try.prog w 84 v1) :
    Calls Try.prog 11 #[v0, v1] w fun e w' => e = .returned (.bool true) ∧ Below w.heap.size w w' := by
  obtain ⟨a, ha, -⟩ := h0.strs Try.underlying84 Try.underlying9 Try.fcellsDS
  obtain ⟨b, hb, -⟩ := h1.strs Try.underlying84 Try.underlying9 Try.fcellsDS
  exact dlaw_walk v0 v1 a b w ha hb
end Go.Proofs.Ytnpolkpofaamlaa
