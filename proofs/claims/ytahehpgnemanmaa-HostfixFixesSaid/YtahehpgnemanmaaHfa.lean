/- Where a request goes (layer 32): Place and Key, on both sides. -/
import Derived.Test.YtahehpgnemanmaaHog
import Derived.Test.YtahehpgnemanmaaHde
import Derived.Test.YtahehpgnemanmaaFew
namespace Go.Proofs.Ytahehpgnemanmaa
open Go.RowKit
set_option linter.unusedVariables false
set_option linter.unusedSimpArgs false

def hfHost : ByteArray := ⟨#[72, 111, 115, 116]⟩
/-- P32.1. -/
def hfP (l : List Fld) (fm : Int) (au a : ByteArray) : ByteArray := if fm = 2 then au else if hIs l hfHost = true then hGet l hfHost else a
def hfTag (fm : Int) (au pa : ByteArray) : Value := .agg #[.int .i64 fm, .string au, .string pa]
theorem two_k1 (w : World) (o1 o2 : Obj) : ((w.alloc o1).alloc o2).heap[w.heap.size]? = some o1 := blk_alloc (heap_alloc_new w o1)
theorem two_k2 (w : World) (o1 o2 : Obj) : ((w.alloc o1).alloc o2).heap[w.heap.size + 1]? = some o2 := by
  have := heap_alloc_new (w.alloc o1) o2
  rwa [World.size_alloc] at this
theorem two_below (w : World) (o1 o2 : Obj) : Below w.heap.size w ((w.alloc o1).alloc o2) := ((Below.refl _ _).alloc (Nat.le_refl _) _).alloc (by simp) _
set_option maxRecDepth 100000 in
set_option maxHeartbeats 1000000 in
theorem hf_told_any (b4 b3 : Nat) (v : Value) (l : List Fld) (fm : Int) (au pa : ByteArray) (w : World) (h3 : w.heap[b3]? = some (.cells #[v] 32 (0, 0))) (h4 : w.heap[b4]? = some (.cells #[.int .i64 fm, .string au, .string pa] 34 (0, 0)))
    (hv : RdF w v l) (hz : ∀ p ∈ l, FldSm p) (hl : l.length ≤ 100000) :
    Calls Try.prog 46 #[.pointer (some ⟨b4, 0, none⟩), .pointer (some ⟨b3, 0, none⟩)] w fun e w' => e = .returned (.tuple #[.string (if fm = 2 then au else hGet l hfHost), .bool (if fm = 2 then true else hIs l hfHost)]) ∧ Below w.heap.size w w' := by
  have HG := Kp.mk (fun w hv => hget_any v l hfHost w hv hz hl (by decide))
  have HV := Kp.mk hv
  have c0 := blk_cell (i := 0) h4 rfl
  have c1 := blk_cell (i := 1) h4 rfl
  have c3 := blk_cell (i := 0) h3 rfl
  obtain ⟨a, cap, rfl, -, -, -⟩ := hv
  clear h3 h4
  by_cases h : fm = 2
  · subst h
    go_enter Try.func46, Try.ntmps46
    go_wp2_with fail
    go_ret2
    exact ⟨rfl, Below.refl _ _⟩
  · have q : (fm == 2) = false := beq_eq_false_iff_ne.2 h
    rw [if_neg h, if_neg h]
    clear h
    go_enter Try.func46, Try.ntmps46
    go_wp2_with fail
    refine (HG.out _ HV.out).mono ?_
    rintro e w1 ⟨rfl, hb⟩
    go_wp2_with fail
    go_ret2
    exact ⟨rfl, hb⟩
set_option maxRecDepth 100000 in
set_option maxHeartbeats 1000000 in
theorem hf_place_any (v : Value) (l : List Fld) (fm : Int) (au pa a : ByteArray) (w : World) (hv : RdF w v l) (hz : ∀ p ∈ l, FldSm p) (hl : l.length ≤ 100000) :
    Calls Try.prog 22 #[v, .agg #[.int .i64 fm, .string au, .string pa], .string a] w fun e w' => e = .returned (.string (hfP l fm au a)) ∧ Below w.heap.size w w' := by
  have K1 := Kp.mk (two_k1 w (.cells #[v] 32) (.cells #[.int .i64 fm, .string au, .string pa] 34))
  have K2 := Kp.mk (two_k2 w (.cells #[v] 32) (.cells #[.int .i64 fm, .string au, .string pa] 34))
  have KB := Kp.mk (two_below w (.cells #[v] 32) (.cells #[.int .i64 fm, .string au, .string pa] 34))
  have HV := Kp.mk hv
  have HX := Kp.mk (show hfP l fm au a = if fm = 2 then au else if hIs l hfHost = true then hGet l hfHost else a from rfl)
  obtain ⟨ad, cap, rfl, -, -, -⟩ := hv
  go_enter Try.func22, Try.ntmps22
  go_wp2_with fail
  refine (hf_told_any (w.heap.size + 1) w.heap.size _ l fm au pa _ K1.out K2.out (HV.out.below KB.out) hz hl).mono ?_
  rintro e w1 ⟨rfl, hb⟩
  have HB := Kp.mk (KB.out.trans (hb.mono KB.out.size))
  clear hb
  by_cases h : fm = 2
  · rw [if_pos h] at HX
    simp only [if_pos h]
    clear h
    go_wp2_with fail
    go_ret
    exact ⟨by rw [HX.out]; rfl, HB.out⟩
  · rw [if_neg h] at HX
    simp only [if_neg h]
    clear h
    cases hi : hIs l hfHost
    · rw [hi, if_neg (by simp)] at HX
      clear hi
      go_wp2_with fail
      go_ret
      exact ⟨by rw [HX.out]; rfl, HB.out⟩
    · rw [hi, if_pos rfl] at HX
      clear hi
      go_wp2_with fail
      go_ret
      exact ⟨by rw [HX.out]; rfl, HB.out⟩
set_option maxRecDepth 100000 in
set_option maxHeartbeats 1000000 in
theorem rhf_place_any (v : Value) (l : List Fld) (fm : Int) (au pa a : ByteArray) (w : World) (hv : RdF w v l) (hz : ∀ p ∈ l, FldSm p) (hl : l.length ≤ 100000) :
    Calls Try.prog 23 #[v, .agg #[.int .i64 fm, .string au, .string pa], .string a] w fun e w' => e = .returned (.string (hfP l fm au a)) ∧ Below w.heap.size w w' := by
  have KB := Kp.mk ((Below.refl _ w).alloc (Nat.le_refl _) (.cells #[.int .i64 fm, .string au, .string pa] 34))
  have HX := Kp.mk (show hfP l fm au a = if fm = 2 then au else if hIs l hfHost = true then hGet l hfHost else a from rfl)
  have HG := Kp.mk (fun w hv => rhall_any v l hfHost w hv hz hl (by decide))
  unfold RetS at HG
  have HV := Kp.mk hv
  obtain ⟨ad, cap, rfl, -, -, -⟩ := hv
  by_cases h : fm = 2
  · rw [if_pos h] at HX
    subst h
    go_enter Try.func23, Try.ntmps23
    go_wp2_with fail
    go_ret
    exact ⟨by rw [HX.out]; rfl, KB.out⟩
  · rw [if_neg h] at HX
    have q : (fm == 2) = false := beq_eq_false_iff_ne.2 h
    have HI := Kp.mk (show hIs l hfHost = decide (0 < (hAll l hfHost).length) from rfl)
    have HGE := Kp.mk (show hGet l hfHost = (hAll l hfHost).headD ⟨#[]⟩ from rfl)
    clear h
    generalize hAll l hfHost = L at *
    go_enter Try.func23, Try.ntmps23
    go_wp2_with fail
    refine (HG.out _ (HV.out.below KB.out)).mono ?_
    rintro e w1 ⟨u, rfl, ho, hb⟩
    have HB := Kp.mk (KB.out.trans (hb.mono KB.out.size))
    have HR := Kp.mk (rds_own ho)
    obtain ⟨a2, c2, rfl⟩ := own_lenH ho
    clear ho hb
    by_cases h0 : 0 < L.length
    · obtain ⟨g, o, rfl, hgl, d0⟩ := rds_cells HR.out h0
      have c1 := d0 0 h0
      have q1 : (0 : Int) < (L.length : Int) := by omega
      have HX2 := Kp.mk (show hfP l fm au a = L[0] by
        rw [HX.out, HI.out, if_pos (decide_eq_true h0), HGE.out]
        cases L with
        | nil => exact absurd h0 (by simp)
        | cons x r => rfl)
      clear d0
      generalize L[0] = x at *
      simp only [Nat.add_zero] at c1
      go_wp2_with fail
      go_ret
      exact ⟨by rw [HX2.out]; rfl, HB.out⟩
    · have q1 : ¬ (0 : Int) < (L.length : Int) := by omega
      have HX2 := Kp.mk (show hfP l fm au a = a by rw [HX.out, HI.out, if_neg (by rw [decide_eq_false h0]; simp)])
      go_wp2_with fail
      go_ret
      exact ⟨by rw [HX2.out]; rfl, HB.out⟩
theorem hGet_sm {l : List Fld} (nm : ByteArray) (hz : ∀ p ∈ l, FldSm p) : (hGet l nm).size ≤ 100000 := by
  unfold hGet
  cases h : hAll l nm with
  | nil => decide
  | cons x r =>
    have hm : x ∈ hAll l nm := by rw [h]; simp
    unfold hAll at hm
    rw [List.mem_map] at hm
    obtain ⟨p, hp, rfl⟩ := hm
    exact (hz p (List.mem_filter.1 hp).1).2
theorem hfP_sm {l : List Fld} {fm : Int} {au a : ByteArray} (hz : ∀ p ∈ l, FldSm p) (h1 : au.size ≤ 100000) (h2 : a.size ≤ 100000) : (hfP l fm au a).size ≤ 100000 := by
  unfold hfP
  split
  · exact h1
  · split
    · exact hGet_sm _ hz
    · exact h2
set_option maxRecDepth 100000 in
set_option maxHeartbeats 1000000 in
theorem hf_key_any (v : Value) (l : List Fld) (fm : Int) (au pa a : ByteArray) (w : World) (hv : RdF w v l) (hz : ∀ p ∈ l, FldSm p) (hl : l.length ≤ 100000) (h1 : au.size ≤ 100000) (h2 : a.size ≤ 100000) :
    Calls Try.prog 24 #[v, .agg #[.int .i64 fm, .string au, .string pa], .string a] w fun e w' => e = .returned (.string (hsK (hfP l fm au a))) ∧ Below w.heap.size w w' := by
  have KB := Kp.mk ((Below.refl _ w).alloc (Nat.le_refl _) (.cells #[.int .i64 fm, .string au, .string pa] 34))
  have HP := Kp.mk (fun w hv => hf_place_any v l fm au pa a w hv hz hl)
  have hsm := hfP_sm (fm := fm) hz h1 h2
  have HK := Kp.mk (fun w => hs_key_any (hfP l fm au a) w (by omega))
  unfold hsKR at HK
  have HV := Kp.mk hv
  obtain ⟨ad, cap, rfl, -, -, -⟩ := hv
  generalize hfP l fm au a = s at *
  generalize hsK s = K at *
  generalize (hsE s == 0) = eb at *
  go_enter Try.func24, Try.ntmps24
  go_wp2_with fail
  refine (HP.out _ (HV.out.below KB.out)).mono ?_
  rintro e w1 ⟨rfl, hb⟩
  have HB := Kp.mk (KB.out.trans (hb.mono KB.out.size))
  clear hb
  go_wp2_with fail
  refine (HK.out _).mono ?_
  rintro e w2 ⟨rfl, hb⟩
  have HB2 := Kp.mk (HB.out.trans (hb.mono HB.out.size))
  clear hb
  go_wp2_with fail
  go_ret
  exact ⟨rfl, HB2.out⟩
set_option maxRecDepth 100000 in
set_option maxHeartbeats 1000000 in
theorem rhf_key_any (v : Value) (l : List Fld) (fm : Int) (au pa a : ByteArray) (w : World) (hv : RdF w v l) (hz : ∀ p ∈ l, FldSm p) (hl : l.length ≤ 100000) (h1 : au.size ≤ 100000) (h2 : a.size ≤ 100000) :
    Calls Try.prog 25 #[v, .agg #[.int .i64 fm, .string au, .string pa], .string a] w fun e w' => e = .returned (.string (hsK (hfP l fm au a))) ∧ Below w.heap.size w w' := by
  have KB := Kp.mk ((Below.refl _ w).alloc (Nat.le_refl _) (.cells #[.int .i64 fm, .string au, .string pa] 34))
  have HP := Kp.mk (fun w hv => rhf_place_any v l fm au pa a w hv hz hl)
  have hsm := hfP_sm (fm := fm) hz h1 h2
  have HK := Kp.mk (fun w => rhs_key_any (hfP l fm au a) w (by omega))
  unfold hsKR at HK
  have HV := Kp.mk hv
  obtain ⟨ad, cap, rfl, -, -, -⟩ := hv
  generalize hfP l fm au a = s at *
  generalize hsK s = K at *
  generalize (hsE s == 0) = eb at *
  go_enter Try.func25, Try.ntmps25
  go_wp2_with fail
  refine (HP.out _ (HV.out.below KB.out)).mono ?_
  rintro e w1 ⟨rfl, hb⟩
  have HB := Kp.mk (KB.out.trans (hb.mono KB.out.size))
  clear hb
  go_wp2_with fail
  refine (HK.out _).mono ?_
  rintro e w2 ⟨rfl, hb⟩
  have HB2 := Kp.mk (HB.out.trans (hb.mono HB.out.size))
  clear hb
  go_wp2_with fail
  go_ret
  exact ⟨rfl, HB2.out⟩
end Go.Proofs.Ytahehpgnemanmaa
