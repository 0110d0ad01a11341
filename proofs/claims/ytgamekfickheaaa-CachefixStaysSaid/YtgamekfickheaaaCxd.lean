/- What is said to caches of another version (layer 31): the document's example, its Request; CachefixRequests (bin/mkcxd.py). -/
import Derived.Test.YtgamekfickheaaaCxc
import Derived.Deep.RegionHeld3
namespace Go.Proofs.Ytgamekfickheaaa
open Go.RowKit
set_option linter.unusedVariables false
set_option linter.unusedSimpArgs false

def cxL1 : List Fld := [(⟨#[80, 114, 97, 103, 109, 97]⟩, ⟨#[110, 111, 45, 99, 97, 99, 104, 101]⟩)]
def cxL2 : List Fld := [(⟨#[67, 97, 99, 104, 101, 45, 67, 111, 110, 116, 114, 111, 108]⟩, ⟨#[109, 97, 120, 45, 97, 103, 101, 61, 49]⟩)]
theorem blk_drewX {w : World} {b : Nat} {o : Obj} (h : w.heap[b]? = some o) : w.drew.heap[b]? = some o := h
theorem cx1_pr : cPr cxL1 = true := by decide +kernel
theorem cx1_is : hIs cxL1 nmCC = false := by decide +kernel
theorem cx1_req : reqL cxL1 0 1 = [(⟨#[80, 114, 97, 103, 109, 97]⟩, ⟨#[110, 111, 45, 99, 97, 99, 104, 101]⟩), (⟨#[67, 97, 99, 104, 101, 45, 67, 111, 110, 116, 114, 111, 108]⟩, ⟨#[110, 111, 45, 99, 97, 99, 104, 101]⟩)] := by
  have e : reqL cxL1 0 1 = adL cxL1 (cPr cxL1) nmCC vNC := rfl
  rw [e, cx1_pr, adL_yes cx1_is (by decide)]
  rfl
theorem cx2_cc : ccD cxL2 = [(⟨#[109, 97, 120, 45, 97, 103, 101]⟩, ⟨#[49]⟩, true)] := by decide +kernel
theorem cx2_age : ageR (ccD cxL2) = (1, true) := by rw [cx2_cc]; decide +kernel
theorem cx2_hd : cHd cxL2 = false := by unfold cHd cHas; rw [cx2_cc]; decide +kernel
theorem cx2_is : hIs cxL2 nmEX = false := by decide +kernel
theorem cx2_get : hGet cxL2 nmDT = ⟨#[]⟩ := by decide +kernel
theorem par_none : parP 0 [] = (0, 0, 3) := by
  have h0 : allS (patS 0).data.toList (fd0 []) = none := by decide +kernel
  have h1 : allS (patS 1).data.toList (fd0 []) = none := by decide +kernel
  have h2 : allS (patS 2).data.toList (fd0 []) = none := by decide +kernel
  unfold parP
  rw [if_pos (by decide), ((parF_none (k := 0) (by decide) h0).trans (parF_none (k := 1) (by decide) h1)).trans (parF_none (k := 2) (by decide) h2)]
  rfl
theorem cx2_bas : basI cxL2 0 = 0 := by
  have h : (datS cxL2 nmDT 0).2 = false := by
    show decide ((parP 0 (hGet cxL2 nmDT).data.toList).2.2 = 0) = false
    rw [cx2_get]
    show decide ((parP 0 []).2.2 = 0) = false
    rw [par_none]; rfl
  unfold basI
  rw [h]; rfl
theorem prt_one : prtB 1 = ⟨#[84, 104, 117, 44, 32, 48, 49, 32, 74, 97, 110, 32, 49, 57, 55, 48, 32, 48, 48, 58, 48, 48, 58, 48, 49, 32, 71, 77, 84]⟩ :=
  (prt_of (n := 1) (y := 1970) (m := 1) (d := 1) 4 0 ⟨by decide, by decide, by decide, by decide, by decide, by decide⟩ (by decide +kernel) (by decide +kernel) (by decide +kernel) (by decide)).trans (by decide +kernel)
theorem cx2_exp : expV cxL2 0 = ⟨#[84, 104, 117, 44, 32, 48, 49, 32, 74, 97, 110, 32, 49, 57, 55, 48, 32, 48, 48, 58, 48, 48, 58, 48, 49, 32, 71, 77, 84]⟩ := by
  unfold expV
  rw [cx2_hd, cx2_bas, cx2_age]
  have e : IntKind.i64.wrap (0 + (1, true).1) = 1 := by decide
  rw [e, if_neg (by decide)]
  exact prt_one
theorem cx2_res : resL cxL2 1 0 0 = [(⟨#[67, 97, 99, 104, 101, 45, 67, 111, 110, 116, 114, 111, 108]⟩, ⟨#[109, 97, 120, 45, 97, 103, 101, 61, 49]⟩), (⟨#[69, 120, 112, 105, 114, 101, 115]⟩, ⟨#[84, 104, 117, 44, 32, 48, 49, 32, 74, 97, 110, 32, 49, 57, 55, 48, 32, 48, 48, 58, 48, 48, 58, 48, 49, 32, 71, 77, 84]⟩)] := by
  have e : resL cxL2 1 0 0 = adL (adL (adL (adL cxL2 (true && cHd cxL2) nmPR vNC) (true && (cHd cxL2 || (ageR (ccD cxL2)).2)) nmEX (expV cxL2 0)) (false && cPr cxL2) nmCC vNC) false nmCC (freV cxL2 0) := rfl
  rw [e, cx2_hd, cx2_age, cx2_exp]
  show adL cxL2 true nmEX ⟨#[84, 104, 117, 44, 32, 48, 49, 32, 74, 97, 110, 32, 49, 57, 55, 48, 32, 48, 48, 58, 48, 48, 58, 48, 49, 32, 71, 77, 84]⟩ = _
  rw [adL_yes cx2_is (by decide)]
  rfl
theorem cx1_few : FewF cxL1 := ⟨by decide, by intro p hp; simp [cxL1] at hp; subst hp; exact ⟨by decide, by decide⟩⟩
theorem cx2_few : FewF cxL2 := ⟨by decide, by intro p hp; simp [cxL2] at hp; subst hp; exact ⟨by decide, by decide⟩⟩
theorem rdf_oneX (w : World) (n x : ByteArray) : RdF (w.alloc (.cells #[.string n, .string x] 35)) (.slice (some ⟨w.heap.size, 0, none⟩) 1 1) [(n, x)] := by
  have h := heap_alloc_new w (.cells #[.string n, .string x] 35)
  refine ⟨some ⟨w.heap.size, 0, none⟩, 1, rfl, by simp, by unfold maxLen; omega, fun _ => ⟨w.heap.size, 0, rfl, blk_lt h, fun j hj i hi => ?_⟩⟩
  have hj1 : j < 1 := by simpa using hj
  obtain rfl : j = 0 := by omega
  rcases (by omega : i = 0 ∨ i = 1) with rfl | rfl
  · exact blk_cell (i := 0) h rfl
  · exact blk_cell (i := 1) h rfl
theorem rdf_two {w : World} {v : Value} {n1 x1 n2 x2 : ByteArray} (h : RdF w v [(n1, x1), (n2, x2)]) : ∃ g o c, v = .slice (some ⟨g, o, none⟩) 2 c ∧ g < w.heap.size ∧ w.cell? ⟨g, o + 2, none⟩ = some (.string n2) ∧ w.cell? ⟨g, o + 2 + 1, none⟩ = some (.string x2) := by
  obtain ⟨a, c, rfl⟩ := rdf_form h
  obtain ⟨g, o, rfl, hg, d⟩ := rdf_cells h (by simp)
  have := d 1 (by simp)
  exact ⟨g, o, c, rfl, hg, this.1, this.2⟩
set_option maxRecDepth 100000 in
set_option maxHeartbeats 2000000 in
theorem lives31_any (w : World) : Calls Try.prog 25 #[] w fun e w' => e = .returned (.bool true) ∧ Below w.heap.size w w' := by
  have HB := Kp.mk ((Below.refl w.heap.size w).alloc (Nat.le_refl _) (.cells #[.string ⟨#[80, 114, 97, 103, 109, 97]⟩, .string ⟨#[110, 111, 45, 99, 97, 99, 104, 101]⟩] 35))
  have C1 := Kp.mk (cxreq_any _ cxL1 0 1 _ (rdf_oneX w ⟨#[80, 114, 97, 103, 109, 97]⟩ ⟨#[110, 111, 45, 99, 97, 99, 104, 101]⟩) cx1_few)
  rw [cx1_req] at C1
  have C2 := Kp.mk (fun w => cxres_any _ cxL2 1 0 0 _ (rdf_oneX w ⟨#[67, 97, 99, 104, 101, 45, 67, 111, 110, 116, 114, 111, 108]⟩ ⟨#[109, 97, 120, 45, 97, 103, 101, 61, 49]⟩) cx2_few (by decide) (by decide))
  rw [cx2_res] at C2
  unfold RetX at C1 C2
  go_enter Try.func25, Try.ntmps25
  go_wp2_with fail
  refine C1.out.mono ?_
  rintro e w1 ⟨u1, rfl, hr1, hb1⟩
  have HB1 := Kp.mk (HB.out.trans (hb1.mono HB.out.size))
  have HR1 := Kp.mk hr1
  obtain ⟨g1, o1, k1, rfl, -, -, -⟩ := rdf_two hr1
  clear hr1 hb1
  go_wp2_with fail
  refine (C2.out _).mono ?_
  rintro e w2 ⟨u2, rfl, hr2, hb2⟩
  have HB2 := Kp.mk ((HB1.out.alloc HB1.out.size (.cells #[.string ⟨#[67, 97, 99, 104, 101, 45, 67, 111, 110, 116, 114, 111, 108]⟩, .string ⟨#[109, 97, 120, 45, 97, 103, 101, 61, 49]⟩] 35)).trans (hb2.mono (HB1.out.alloc HB1.out.size (.cells #[.string ⟨#[67, 97, 99, 104, 101, 45, 67, 111, 110, 116, 114, 111, 108]⟩, .string ⟨#[109, 97, 120, 45, 97, 103, 101, 61, 49]⟩] 35)).size))
  have HR2 := (HR1.out.below ((Below.refl _ _).alloc (Nat.le_refl _) _)).below hb2
  obtain ⟨g, o, k, e1, -, c1, c2⟩ := rdf_two HR2
  cases e1
  obtain ⟨g2, o2, k2, rfl, -, c3, c4⟩ := rdf_two hr2
  clear hr2 hb2 HR2
  go_wp2_with fail
  go_ret
  exact ⟨rfl, HB2.out⟩
theorem Try.cellsTu : Try.prog.cellsOf 38 = 3 := by kernel_rfl
theorem Try.cellsInX : Try.prog.cellsOf 3 = 1 := by kernel_rfl
set_option maxRecDepth 100000 in
theorem turn_arg (v : Value) (w : World) (h : Arg Try.prog w 38 v) : ∃ f t n : Int, v = .agg #[.int .i64 f, .int .i64 t, .int .i64 n] ∧ (Lit.int .i64 n).wf = true := by
  obtain ⟨cs, rfl, hr⟩ := h.struct Try.underlying38
  obtain ⟨hl, hf⟩ := hr.struct Try.underlying38
  rw [Try.cellsTu] at hl
  have f0 : Rdb Try.prog w 3 ((cs.drop 0).take (Try.prog.cellsOf 3)) := hf 0 _ rfl
  rw [Try.cellsInX] at f0
  have f1 : Rdb Try.prog w 3 ((cs.drop 1).take (Try.prog.cellsOf 3)) := hf 1 _ rfl
  rw [Try.cellsInX] at f1
  have f2 : Rdb Try.prog w 3 ((cs.drop 2).take (Try.prog.cellsOf 3)) := hf 2 _ rfl
  rw [Try.cellsInX] at f2
  obtain ⟨m0, k0, z0⟩ := f0.int Try.underlying3
  obtain ⟨m1, k1, z1⟩ := f1.int Try.underlying3
  obtain ⟨m2, k2, z2⟩ := f2.int Try.underlying3
  match cs, hl with
  | [x0, x1, x2], _ =>
    simp at k0 k1 k2
    exact ⟨m0, m1, m2, by rw [k0, k1, k2], z2⟩
theorem hlist_cx (v : Value) (w : World) (h : Arg Try.prog w 28 v) : ∃ l, RdF w v l ∧ ∀ p ∈ l, FldOk p :=
  h.list (f := fldC) (Q := FldOk) Try.underlying28 Try.fcellsFld (by omega) fun E hE =>
    fld_of Try.underlying35 Try.underlying9 Try.fcellsFld Try.fcellsFs ⟨_, rfl, rfl, rfl⟩ ⟨_, rfl, rfl, rfl⟩ hE
end Go.Proofs.Ytgamekfickheaaa
