/- Tally (layer 49): comparisons of ints and texts, and slices.SortFunc at rows of a key and a number (bin/mktla.py). -/
import Derived.Test.YtocnecbhpofdgaaGb
import Derived.Test.YtocnecbhpofdgaaShs
import Derived.Test.YtocnecbhpofdgaaProg
import Derived.Laws.Cover1
import Derived.Sort.Walk0
import Derived.Shelf.SlSortCmp.WholeK
import Derived.Ground.SlsfProg
namespace Go.Proofs.Ytocnecbhpofdgaa
open Go.RowKit Go.Shelf Go.Lib Go.Sort
set_option linter.unusedVariables false
set_option linter.unusedSimpArgs false

def bsL (x y : ByteArray) : Bool := Op.bytesLess x.toList y.toList
theorem bsL_iff (x y : ByteArray) : bsL x y = true ↔ x.toList < y.toList := by
  unfold bsL
  rw [bytesLess_eq, decide_eq_true_eq]
theorem bsL_no (x y : ByteArray) : bsL x y = false ↔ y.toList ≤ x.toList := by
  unfold bsL
  rw [bytesLess_eq, decide_eq_false_iff_not, List.not_lt]
theorem bsL_asym {x y : ByteArray} (h : bsL x y = true) : bsL y x = false := (bsL_no y x).2 (List.le_of_lt ((bsL_iff x y).1 h))
theorem bsL_ntr {x y z : ByteArray} (h1 : bsL y x = false) (h2 : bsL z y = false) : bsL z x = false := (bsL_no z x).2 (List.le_trans ((bsL_no y x).1 h1) ((bsL_no z y).1 h2))
theorem bsL_eq {x y : ByteArray} (h1 : bsL x y = false) (h2 : bsL y x = false) : x = y := by
  have := List.le_antisymm ((bsL_no y x).1 h2) ((bsL_no x y).1 h1)
  cases x with
  | mk a => cases y with
    | mk b =>
      rw [ByteArray.toList_eq, ByteArray.toList_eq] at this
      simp at this
      rw [this]
def cmB (x y : ByteArray) : Int := if bsL x y = true then -1 else if bsL y x = true then 1 else 0
theorem cmB_lt (x y : ByteArray) : decide (cmB x y < 0) = bsL x y := by
  unfold cmB
  cases h : bsL x y
  · rw [if_neg (by simp)]
    split <;> rfl
  · rfl
theorem gtr_fact (x y : ByteArray) : (!(Op.bytesLess x.toList y.toList || x.toList == y.toList)) = (!bsL x y && bsL y x) := by
  unfold bsL
  cases h : Op.bytesLess x.toList y.toList
  · simp only [Bool.false_or, Bool.not_false, Bool.true_and]
    cases h2 : Op.bytesLess y.toList x.toList
    · have : x = y := bsL_eq h h2
      subst this
      simp
    · have : ¬ x.toList = y.toList := fun e => by
        rw [e] at h h2
        rw [h] at h2
        cases h2
      simp [this]
  · rfl
set_option maxHeartbeats 1000000 in
theorem isnanS (x : ByteArray) (w : World) : Calls Try.prog 71 #[.string x] w fun e w' => e = .returned (.bool false) ∧ w = w' := by
  go_enter Try.func71, Try.ntmps71
  go_wp2_with fail
  go_ret
  exact ⟨by simp, rfl⟩
set_option maxHeartbeats 1000000 in
theorem cmps_any (x y : ByteArray) (w : World) : Calls Try.prog 55 #[.string x, .string y] w fun e w' => e = .returned (.int .i64 (cmB x y)) ∧ w = w' := by
  have hg := gtr_fact x y
  have HL := Kp.mk (show Op.bytesLess x.toList y.toList = bsL x y from rfl)
  have HC := Kp.mk (show cmB x y = if bsL x y = true then -1 else if bsL y x = true then 1 else 0 from rfl)
  have hl := HL.out
  generalize cmB x y = c at *
  generalize bsL x y = b1 at *
  generalize bsL y x = b2 at *
  cases b1
  · have hg2 : (x.toList == y.toList) = !b2 := by
      rw [hl] at hg
      simp only [Bool.false_or, Bool.not_false, Bool.true_and] at hg
      rw [← hg]
      simp
    clear hg
    cases b2
    all_goals
      go_enter Try.func55, Try.ntmps55
      go_wp2_with fail
      refine (isnanS x _).mono ?_
      rintro e w1 ⟨rfl, rfl⟩
      go_wp2_with fail
      refine (isnanS y _).mono ?_
      rintro e w1 ⟨rfl, rfl⟩
      go_wp2_with fail
      go_ret
      exact ⟨by rw [HC.out]; rfl, rfl⟩
  · clear hg
    go_enter Try.func55, Try.ntmps55
    go_wp2_with fail
    refine (isnanS x _).mono ?_
    rintro e w1 ⟨rfl, rfl⟩
    go_wp2_with fail
    refine (isnanS y _).mono ?_
    rintro e w1 ⟨rfl, rfl⟩
    go_wp2_with fail
    go_ret
    exact ⟨by rw [HC.out]; rfl, rfl⟩
/-- How canon.Same compares two fields. -/
def cmI (x y : Int) : Int := if x < y then -1 else if y < x then 1 else 0
theorem isnanI (x : Int) (w : World) : Calls Try.prog 76 #[.int .i64 x] w fun e w' => e = .returned (.bool false) ∧ w = w' := by
  have hx : (x != x) = false := by simp
  go_enter Try.func76, Try.ntmps76
  go_wp2_with fail
  go_ret
  exact ⟨rfl, rfl⟩
theorem cmpi_any (x y : Int) (w : World) : Calls Try.prog 62 #[.int .i64 x, .int .i64 y] w fun e w' => e = .returned (.int .i64 (cmI x y)) ∧ w = w' := by
  have HC := Kp.mk (show cmI x y = if x < y then -1 else if y < x then 1 else 0 from rfl)
  generalize cmI x y = C at *
  by_cases h1 : x < y
  · have hC := HC.out.trans (if_pos h1)
    subst hC
    go_enter Try.func62, Try.ntmps62
    go_wp2_with fail
    refine (isnanI x _).mono ?_
    rintro e w1 ⟨rfl, rfl⟩
    go_wp2_with fail
    refine (isnanI y _).mono ?_
    rintro e w1 ⟨rfl, rfl⟩
    go_wp2_with fail
    go_ret
    exact ⟨rfl, rfl⟩
  · by_cases h2 : y < x
    · have hC := HC.out.trans ((if_neg h1).trans (if_pos h2))
      subst hC
      go_enter Try.func62, Try.ntmps62
      go_wp2_with fail
      refine (isnanI x _).mono ?_
      rintro e w1 ⟨rfl, rfl⟩
      go_wp2_with fail
      refine (isnanI y _).mono ?_
      rintro e w1 ⟨rfl, rfl⟩
      go_wp2_with fail
      go_ret
      exact ⟨rfl, rfl⟩
    · have hC := HC.out.trans ((if_neg h1).trans (if_neg h2))
      subst hC
      go_enter Try.func62, Try.ntmps62
      go_wp2_with fail
      refine (isnanI x _).mono ?_
      rintro e w1 ⟨rfl, rfl⟩
      go_wp2_with fail
      refine (isnanI y _).mono ?_
      rintro e w1 ⟨rfl, rfl⟩
      go_wp2_with fail
      go_ret
      exact ⟨rfl, rfl⟩
abbrev Rs := ByteArray × Int
def RsE (x : Rs) : List Value := [.string x.1, .int .i64 x.2]
theorem RsE_len (x : Rs) : (RsE x).length = 2 := rfl
theorem RsE_one (x : Rs) : ∀ v ∈ RsE x, v.oneCell' = true := by
  intro v hv
  simp [RsE] at hv
  rcases hv with rfl | rfl <;> rfl
def RsC (x y : Rs) : Int := cmB x.1 y.1
set_option maxHeartbeats 1000000 in
theorem Rscmp (f g : Rs) (w : World) : Calls Try.prog 86 #[.agg #[.string f.1, .int .i64 f.2], .agg #[.string g.1, .int .i64 g.2]] w fun e w' => e = .returned (.int .i64 (RsC f g)) ∧ ∃ q os, w' = grow (w.drewN q) os := by
  obtain ⟨n, v⟩ := f
  obtain ⟨m, u⟩ := g
  have HG := Kp.mk (show (w.alloc (.cells #[.string n, .int .i64 v] 110)).alloc (.cells #[.string m, .int .i64 u] 110) = grow (w.drewN 0) #[.cells #[.string n, .int .i64 v] 110, .cells #[.string m, .int .i64 u] 110] from by
    rw [alloc_eq_grow, alloc_eq_grow, grow_grow]; rfl)
  show Calls Try.prog 86 #[.agg #[.string n, .int .i64 v], .agg #[.string m, .int .i64 u]] w fun e w' => e = .returned (.int .i64 (cmB n m)) ∧ ∃ q os, w' = grow (w.drewN q) os
  go_enter Try.func86, Try.ntmps86
  go_wp2_with fail
  refine (cmps_any n m _).mono ?_
  rintro e w1 ⟨rfl, rfl⟩
  go_wp2_with fail
  go_ret
  exact ⟨rfl, 0, _, HG.out⟩
theorem swoRs : SWO (ltOf RsC) where
  irrefl x := by show decide (cmB x.1 x.1 < 0) = false; rw [cmB_lt]; exact (bsL_no _ _).2 (List.le_refl _)
  trans x y z h1 h2 := by
    have g1 : bsL x.1 y.1 = true := (cmB_lt _ _).symm.trans h1
    have g2 : bsL y.1 z.1 = true := (cmB_lt _ _).symm.trans h2
    show decide (cmB x.1 z.1 < 0) = true
    rw [cmB_lt]
    rw [bsL_iff] at *
    exact List.lt_trans g1 g2
  ntrans x y z h1 h2 := by
    have g1 : bsL x.1 y.1 = false := (cmB_lt _ _).symm.trans h1
    have g2 : bsL y.1 z.1 = false := (cmB_lt _ _).symm.trans h2
    show decide (cmB x.1 z.1 < 0) = false
    rw [cmB_lt]
    exact bsL_ntr g2 g1
theorem Rssrt (blk cap : Nat) (d : Array Rs) (w : World) (hH : HoldsK RsE 2 w blk 0 d) (hblk : blk < w.heap.size) (hsz : d.size < 4611686018427387904) :
    Calls Try.prog 85 #[.slice (some ⟨blk, 0, none⟩) d.size cap, .func (.func 86) #[] #[]] w fun e w' =>
      e = .returned (.tuple #[]) ∧ ∃ d' n os, PermIn 0 d.size d d' ∧ SortedIn (ltOf RsC) 0 d.size d' ∧ w' = sortWorldK RsE 2 w blk 0 n d' os :=
  AnyQ.slices_SortFunc Ytocnecbhpofdgaa.layRs 2 Try.isAgg110 Try.sizeOf110 RsE RsE_len RsE_one RsC swoRs 86 #[] blk 0 cap d w
    (enters_of Try.func86 (by kernel_rfl) rfl) (fun m os dk _ x y => Rscmp x y _) hH hblk hsz
abbrev Ri := Int × Int
def RiE (x : Ri) : List Value := [.int .i64 x.1, .int .i64 x.2]
theorem RiE_len (x : Ri) : (RiE x).length = 2 := rfl
theorem RiE_one (x : Ri) : ∀ v ∈ RiE x, v.oneCell' = true := by
  intro v hv
  simp [RiE] at hv
  rcases hv with rfl | rfl <;> rfl
def RiC (x y : Ri) : Int := cmI x.1 y.1
set_option maxHeartbeats 1000000 in
theorem Ricmp (f g : Ri) (w : World) : Calls Try.prog 67 #[.agg #[.int .i64 f.1, .int .i64 f.2], .agg #[.int .i64 g.1, .int .i64 g.2]] w fun e w' => e = .returned (.int .i64 (RiC f g)) ∧ ∃ q os, w' = grow (w.drewN q) os := by
  obtain ⟨n, v⟩ := f
  obtain ⟨m, u⟩ := g
  have HG := Kp.mk (show (w.alloc (.cells #[.int .i64 n, .int .i64 v] 81)).alloc (.cells #[.int .i64 m, .int .i64 u] 81) = grow (w.drewN 0) #[.cells #[.int .i64 n, .int .i64 v] 81, .cells #[.int .i64 m, .int .i64 u] 81] from by
    rw [alloc_eq_grow, alloc_eq_grow, grow_grow]; rfl)
  show Calls Try.prog 67 #[.agg #[.int .i64 n, .int .i64 v], .agg #[.int .i64 m, .int .i64 u]] w fun e w' => e = .returned (.int .i64 (cmI n m)) ∧ ∃ q os, w' = grow (w.drewN q) os
  go_enter Try.func67, Try.ntmps67
  go_wp2_with fail
  refine (cmpi_any n m _).mono ?_
  rintro e w1 ⟨rfl, rfl⟩
  go_wp2_with fail
  go_ret
  exact ⟨rfl, 0, _, HG.out⟩
theorem cmI_lt (x y : Int) : decide (cmI x y < 0) = decide (x < y) := by
  unfold cmI
  by_cases h1 : x < y
  · simp [h1]
  · by_cases h2 : y < x <;> simp [h1, h2]
theorem swoRi : SWO (ltOf RiC) where
  irrefl x := by show decide (cmI x.1 x.1 < 0) = false; rw [cmI_lt]; simp
  trans x y z h1 h2 := by
    have g1 := (cmI_lt x.1 y.1).symm.trans h1
    have g2 := (cmI_lt y.1 z.1).symm.trans h2
    show decide (cmI x.1 z.1 < 0) = true
    rw [cmI_lt]
    rw [decide_eq_true_eq] at *
    omega
  ntrans x y z h1 h2 := by
    have g1 := (cmI_lt x.1 y.1).symm.trans h1
    have g2 := (cmI_lt y.1 z.1).symm.trans h2
    show decide (cmI x.1 z.1 < 0) = false
    rw [cmI_lt]
    rw [decide_eq_false_iff_not] at *
    omega
theorem Risrt (blk cap : Nat) (d : Array Ri) (w : World) (hH : HoldsK RiE 2 w blk 0 d) (hblk : blk < w.heap.size) (hsz : d.size < 4611686018427387904) :
    Calls Try.prog 66 #[.slice (some ⟨blk, 0, none⟩) d.size cap, .func (.func 67) #[] #[]] w fun e w' =>
      e = .returned (.tuple #[]) ∧ ∃ d' n os, PermIn 0 d.size d d' ∧ SortedIn (ltOf RiC) 0 d.size d' ∧ w' = sortWorldK RiE 2 w blk 0 n d' os :=
  AnyQ.slices_SortFunc Ytocnecbhpofdgaa.layRi 2 Try.isAgg81 Try.sizeOf81 RiE RiE_len RiE_one RiC swoRi 67 #[] blk 0 cap d w
    (enters_of Try.func67 (by kernel_rfl) rfl) (fun m os dk _ x y => Ricmp x y _) hH hblk hsz
end Go.Proofs.Ytocnecbhpofdgaa
