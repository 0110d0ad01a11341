/- Dates of a head's fields (layer 30): the program's Dated and Fix (bin/mkdfa.py). -/
import Derived.Test.YtgamekfickheaaaDth
import Derived.Test.YtgamekfickheaaaFew
import Derived.Test.YtgamekfickheaaaHdi
namespace Go.Proofs.Ytgamekfickheaaa
open Go.RowKit
set_option linter.unusedVariables false
set_option linter.unusedSimpArgs false

theorem foldB_sym (a b : ByteArray) : foldB a b = foldB b a := by unfold foldB; rw [Bool.eq_iff_iff, beq_iff_eq, beq_iff_eq]; exact eq_comm
theorem dt1_any (n x : ByteArray) (bx : Nat) (w : World) (hc : w.cell? ⟨bx, 0, none⟩ = some (.string x)) (hn : n.size ≤ 100000) (hx : x.size ≤ 100000) :
    Calls Try.prog 72 #[.string n, .pointer (some ⟨bx, 0, none⟩)] w fun e w' => e = .returned (.bool (foldB x n)) ∧ Below w.heap.size w w' := by
  have HS := Kp.mk (foldB_sym x n)
  go_enter Try.func72, Try.ntmps72
  go_wp2_with fail
  refine (oct_fold_any _ _ _ (by omega) (by omega)).mono ?_
  rintro e w1 ⟨rfl, hb⟩
  go_wp2_with fail
  go_ret
  exact ⟨by rw [HS.out]; rfl, hb⟩
def IdxPostD (b : Bool) (w : World) (e : Ending) (w' : World) : Prop := ∃ r : Int, e = .returned (.int .i64 r) ∧ decide (0 ≤ r) = b ∧ Below w.heap.size w w'
set_option maxRecDepth 100000 in
set_option maxHeartbeats 2000000 in
theorem ixsD_any (v : Value) (ns : List ByteArray) (x : ByteArray) (bx : Nat) (w : World) (hv : RdS w v ns) (hc : w.cell? ⟨bx, 0, none⟩ = some (.string x)) (hbx : bx < w.heap.size) (hz : ∀ n ∈ ns, n.size ≤ 100000) (hx : x.size ≤ 100000) (hl : ns.length ≤ 1000000) :
    Calls Try.prog 122 #[v, .func (.func 72) #[] #[.pointer (some ⟨bx, 0, none⟩)]] w (IdxPostD (hHas x ns) w) := by
  have HV := Kp.mk hv
  have HZ := Kp.mk hz
  have HC := Kp.mk hc
  obtain ⟨a, cap, rfl, hc1, hc2, -⟩ := hv
  clear hz hc hc2
  go_enter Try.func122, Try.ntmps122
  go_wp2_with fail
  go_loopw [8] (fun i wr => ∃ k : Nat, k ≤ ns.length ∧ i = .int .i64 k ∧ hHas x (ns.take k) = false ∧ Below w.heap.size w wr) (fun i _ => ns.length - (intOf i).toNat)
  case atStart => exact ⟨0, by omega, rfl, rfl, Below.refl _ _⟩
  case round =>
    obtain ⟨k, hk, rfl, hh, hb⟩ := hrel
    have HB := Kp.mk hb
    have HH := Kp.mk hh
    have HCK := Kp.mk ((hb.cell (p := ⟨bx, 0, none⟩) hbx).trans HC.out)
    have hsz := hb.size
    clear hh hb
    by_cases hlt : k < ns.length
    · obtain ⟨g, o, rfl, hgl, d0⟩ := rds_cells (HV.out.below HB.out) (by omega)
      have c1 := d0 k hlt
      have m1 := HZ.out ns[k] (List.getElem_mem hlt)
      have q0 : (0 : Int) ≤ (k : Int) := by omega
      have q1 : (k : Int) < (ns.length : Int) := by omega
      have HT := Kp.mk (hHas_take (x := x) hlt)
      have HHit := Kp.mk (hHas_hit (x := x) hlt)
      clear d0
      generalize ns[k] = n at *
      go_wp2_with fail
      refine (dt1_any n x bx _ HCK.out m1 hx).mono ?_
      rintro e w2 ⟨rfl, hb2⟩
      have HB2 := Kp.mk (HB.out.trans (hb2.mono hsz))
      clear hb2
      cases hf : foldB x n
      · have HT2 := Kp.mk (show hHas x (ns.take (k + 1)) = false by rw [HT.out, hf, HH.out]; rfl)
        go_wp2_with fail
        go_roundw
        case rel => exact ⟨k + 1, by omega, by go_num, HT2.out, HB2.out⟩
        case measure => simp [intOf]; omega
      · have HT2 := Kp.mk (HHit.out hf)
        go_wp2_with fail
        go_ret
        exact ⟨_, rfl, by rw [HT2.out]; exact decide_eq_true (by omega), HB2.out⟩
    · have HK := Kp.mk (show hHas x ns = false by have := HH.out; rwa [List.take_of_length_le (by omega)] at this)
      go_wp2_with fail
      go_ret
      exact ⟨-1, rfl, by rw [HK.out]; rfl, HB.out⟩
theorem cofD_any (v : Value) (ns : List ByteArray) (x : ByteArray) (bx : Nat) (w : World) (hv : RdS w v ns) (hc : w.cell? ⟨bx, 0, none⟩ = some (.string x)) (hbx : bx < w.heap.size) (hz : ∀ n ∈ ns, n.size ≤ 100000) (hx : x.size ≤ 100000) (hl : ns.length ≤ 1000000) :
    Calls Try.prog 71 #[v, .func (.func 72) #[] #[.pointer (some ⟨bx, 0, none⟩)]] w fun e w' => e = .returned (.bool (hHas x ns)) ∧ Below w.heap.size w w' := by
  have HC := Kp.mk hc
  have HV := Kp.mk hv
  have HZ := Kp.mk hz
  clear hc hv hz
  go_enter Try.func71, Try.ntmps71
  go_wp2_with fail
  refine (ixsD_any v ns x bx _ HV.out HC.out hbx HZ.out hx hl).mono ?_
  rintro e w1 ⟨r, rfl, hr, hb⟩
  have HR := Kp.mk hr
  clear hr
  go_wp2_with fail
  go_ret
  exact ⟨by rw [← HR.out]; rfl, hb⟩
/-- The names of fields that have dates. -/
def datN : List ByteArray := [⟨#[68, 97, 116, 101]⟩, ⟨#[69, 120, 112, 105, 114, 101, 115]⟩, ⟨#[76, 97, 115, 116, 45, 77, 111, 100, 105, 102, 105, 101, 100]⟩, ⟨#[73, 102, 45, 77, 111, 100, 105, 102, 105, 101, 100, 45, 83, 105, 110, 99, 101]⟩, ⟨#[73, 102, 45, 85, 110, 109, 111, 100, 105, 102, 105, 101, 100, 45, 83, 105, 110, 99, 101]⟩]
def datB (x : ByteArray) : Bool := hHas x datN
theorem datN_ok : ∀ n ∈ datN, n.size ≤ 100000 := by decide
theorem rds_blk5 {W : World} {b : Nat} {t : TypeId} {a0 a1 a2 a3 a4 : ByteArray} (h : W.heap[b]? = some (.cells #[.string a0, .string a1, .string a2, .string a3, .string a4] t (0, 0))) : RdS W (.slice (some ⟨b, 0, none⟩) 5 5) [a0, a1, a2, a3, a4] := by
  refine ⟨some ⟨b, 0, none⟩, 5, rfl, by simp, by unfold maxLen; omega, fun _ => ⟨b, 0, rfl, blk_lt h, fun j hj i hi => ?_⟩⟩
  obtain rfl : i = 0 := by omega
  simp only [Nat.zero_add, Nat.mul_one, Nat.add_zero]
  have hj : j < 5 := by simpa using hj
  rcases (by omega : j = 0 ∨ j = 1 ∨ j = 2 ∨ j = 3 ∨ j = 4) with rfl | rfl | rfl | rfl | rfl
  · exact blk_cell (i := 0) h rfl
  · exact blk_cell (i := 1) h rfl
  · exact blk_cell (i := 2) h rfl
  · exact blk_cell (i := 3) h rfl
  · exact blk_cell (i := 4) h rfl
set_option maxRecDepth 100000 in
set_option maxHeartbeats 2000000 in
theorem dated_any (x : ByteArray) (w : World) (hx : x.size ≤ 100000) :
    Calls Try.prog 23 #[.string x] w fun e w' => e = .returned (.bool (datB x)) ∧ Below w.heap.size w w' := by
  have h0 := heap_alloc_new w (.cells #[.string x] 9)
  have h1 := heap_alloc_new (w.alloc (.cells #[.string x] 9)) (.cells #[.string ⟨#[68, 97, 116, 101]⟩, .string ⟨#[69, 120, 112, 105, 114, 101, 115]⟩, .string ⟨#[76, 97, 115, 116, 45, 77, 111, 100, 105, 102, 105, 101, 100]⟩, .string ⟨#[73, 102, 45, 77, 111, 100, 105, 102, 105, 101, 100, 45, 83, 105, 110, 99, 101]⟩, .string ⟨#[73, 102, 45, 85, 110, 109, 111, 100, 105, 102, 105, 101, 100, 45, 83, 105, 110, 99, 101]⟩] 111)
  rw [World.size_alloc] at h1
  have HR := Kp.mk (rds_blk5 h1)
  have HC := Kp.mk (blk_cell (i := 0) (blk_alloc (o2 := .cells #[.string ⟨#[68, 97, 116, 101]⟩, .string ⟨#[69, 120, 112, 105, 114, 101, 115]⟩, .string ⟨#[76, 97, 115, 116, 45, 77, 111, 100, 105, 102, 105, 101, 100]⟩, .string ⟨#[73, 102, 45, 77, 111, 100, 105, 102, 105, 101, 100, 45, 83, 105, 110, 99, 101]⟩, .string ⟨#[73, 102, 45, 85, 110, 109, 111, 100, 105, 102, 105, 101, 100, 45, 83, 105, 110, 99, 101]⟩] 111) h0) rfl)
  have HB := Kp.mk (((Below.refl w.heap.size w).alloc (Nat.le_refl _) (.cells #[.string x] 9)).alloc (by simp) (.cells #[.string ⟨#[68, 97, 116, 101]⟩, .string ⟨#[69, 120, 112, 105, 114, 101, 115]⟩, .string ⟨#[76, 97, 115, 116, 45, 77, 111, 100, 105, 102, 105, 101, 100]⟩, .string ⟨#[73, 102, 45, 77, 111, 100, 105, 102, 105, 101, 100, 45, 83, 105, 110, 99, 101]⟩, .string ⟨#[73, 102, 45, 85, 110, 109, 111, 100, 105, 102, 105, 101, 100, 45, 83, 105, 110, 99, 101]⟩] 111))
  clear h0 h1
  go_enter Try.func23, Try.ntmps23
  go_wp2_with fail
  refine (cofD_any _ datN x w.heap.size _ HR.out HC.out (by simp; omega) datN_ok hx (by decide)).mono ?_
  rintro e w1 ⟨rfl, hb⟩
  go_wp2_with fail
  go_ret
  exact ⟨rfl, HB.out.trans (hb.mono HB.out.size)⟩
/-- A field with its date fixed. -/
noncomputable def dfV (now : Int) (p : Fld) : ByteArray := if datB p.1 = true then fixF now p.2.data.toList else p.2
noncomputable def dfG (now : Int) (p : Fld) : Fld := (p.1, dfV now p)
noncomputable def dfL (now : Int) (l : List Fld) : List Fld := l.map (dfG now)
noncomputable def dfT (now : Int) (l : List Fld) (k : Nat) : List Fld := (l.take k).map (dfG now) ++ l.drop k
theorem dfT_zero (now : Int) (l : List Fld) : dfT now l 0 = l := by simp [dfT]
theorem dfT_len (now : Int) (l : List Fld) (k : Nat) : (dfT now l k).length = l.length := by
  unfold dfT
  rw [List.length_append, List.length_map, List.length_take, List.length_drop]
  omega
theorem dfT_all {now : Int} {l : List Fld} {k : Nat} (h : l.length ≤ k) : dfT now l k = dfL now l := by
  unfold dfT dfL
  rw [List.take_of_length_le h, List.drop_of_length_le h, List.append_nil]
theorem dfT_step {now : Int} {l : List Fld} {k : Nat} (h : k < l.length) : dfT now l (k + 1) = (dfT now l k).set k (dfG now l[k]) := by
  unfold dfT
  have e : ((l.take k).map (dfG now)).length = k := by rw [List.length_map, List.length_take]; omega
  rw [List.take_succ_eq_append_getElem h, List.map_append, List.append_assoc, List.drop_eq_getElem_cons h, List.set_append_right _ _ (by omega), e, Nat.sub_self]
  rfl
theorem dfT_at {now : Int} {l : List Fld} {k : Nat} (h : k < l.length) : (dfT now l k)[k]'(by rw [dfT_len]; exact h) = l[k] := by
  unfold dfT
  have e : ((l.take k).map (dfG now)).length = k := by rw [List.length_map, List.length_take]; omega
  rw [List.getElem_append_right (by omega)]
  simp only [e, Nat.sub_self, List.getElem_drop, Nat.add_zero]
theorem fvH_set : ∀ (l : List Fld) (k : Nat) (h : k < l.length) (y : ByteArray), (fvH l).set (k * 2 + 1) (.string y) = fvH (l.set k (l[k].1, y))
  | [], k, h, y => by simp at h
  | p :: l, 0, h, y => by simp [fvH, fldC]
  | p :: l, k + 1, h, y => by
    have ih := fvH_set l k (by simpa using h) y
    have e : (k + 1) * 2 = (k * 2 + 1) + 1 := by omega
    simp only [fvH, fldC, List.flatMap_cons, List.cons_append, List.nil_append, List.set_cons_succ, List.getElem_cons_succ] at ih ⊢
    rw [e, List.set_cons_succ, ih]
theorem set_same {α : Type} : ∀ (l : List α) (k : Nat) (h : k < l.length), l.set k l[k] = l
  | [], k, h => by simp at h
  | p :: l, 0, h => by simp
  | p :: l, k + 1, h => by simp
theorem dfT_keep {now : Int} {l : List Fld} {k : Nat} (h : k < l.length) (hd : datB l[k].1 = false) : dfT now l (k + 1) = dfT now l k := by
  rw [dfT_step h]
  have e : dfG now l[k] = (dfT now l k)[k]'(by rw [dfT_len]; exact h) := by rw [dfT_at h]; unfold dfG dfV; rw [hd]; rfl
  rw [e]
  exact set_same _ _ _
theorem own_store2 {w : World} {B : Nat} {e : TypeId} {n g cap k : Nat} {xs : List Value} {u : Value} (h : w.ownsRow B e 2 (.slice (some ⟨g, 0, none⟩) n cap) n xs) (hk : k < n * 2) :
    (w.setCell ⟨g, k, none⟩ u).ownsRow B e 2 (.slice (some ⟨g, 0, none⟩) n cap) n (xs.set k u) := by
  refine ⟨by rw [List.length_set]; exact h.1, ?_⟩
  rcases h.2 with ⟨h2, _⟩ | ⟨g', cap', cur, h2, h3, hg, h4, h5, h6, h7⟩
  · cases h2
  · cases h2
    refine .inr ⟨g, cap, cur.setIfInBounds k u, rfl, h3, blk_set hg _, h4, h5, by rw [Array.size_setIfInBounds]; exact h6, ?_⟩
    rw [Array.toList_setIfInBounds, List.take_set, h7]
theorem own_formD {w : World} {B : Nat} {e : TypeId} {sz n : Nat} {a : Option Addr} {c : Nat} {xs : List Value} (h : w.ownsRow B e sz (.slice a n c) n xs) : (a = none ∧ n = 0) ∨ ∃ g, a = some ⟨g, 0, none⟩ := by
  rcases h.2 with ⟨h, h0⟩ | ⟨g, cap, cur, h, _⟩
  · cases h
    exact .inl ⟨rfl, rfl⟩
  · cases h
    exact .inr ⟨g, rfl⟩
theorem rdf_at {W : World} {g o c n k : Nat} {l : List Fld} (h : RdF W (.slice (some ⟨g, o, none⟩) n c) l) (hk : k < l.length) : W.cell? ⟨g, o + k * 2, none⟩ = some (.string l[k].1) ∧ W.cell? ⟨g, o + k * 2 + 1, none⟩ = some (.string l[k].2) ∧ g < W.heap.size := by
  obtain ⟨b, o', e, hb, d⟩ := rdf_cells h (by omega)
  cases e
  exact ⟨(d k hk).1, (d k hk).2, hb⟩
set_option maxRecDepth 100000 in
set_option maxHeartbeats 1000000 in
theorem cloneD_any (v : Value) (l : List Fld) (w : World) (hv : RdF w v l) (hl : l.length ≤ 10000) :
    Calls Try.prog 70 #[v] w (RetF l w) := by
  have hBA := (Below.refl w.heap.size w).alloc (Nat.le_refl _) (.cells #[] 35)
  have HVA := Kp.mk (hv.below hBA)
  have HO := Kp.mk (World.ownsRow_lit (base := w.heap.size) (e := 35) (size := 2) w #[] 0 (Nat.le_refl _) (by unfold maxLen; omega) rfl)
  have HBA := Kp.mk hBA
  have hszA : w.heap.size ≤ (w.alloc (.cells #[] 35)).heap.size := hBA.size
  have hlen0 : (0 + l.length) * 32 ≤ 140737488355328 := by omega
  have hmx0 : 0 + l.length ≤ maxLen := by unfold maxLen; omega
  obtain ⟨a, cap, rfl, -, -, h4⟩ := hv
  clear hBA
  cases a with
  | none =>
    have h0 : l = [] := by
      rcases Nat.eq_zero_or_pos l.length with h0 | h0
      · exact List.eq_nil_of_length_eq_zero h0
      · obtain ⟨b, off, hb, _⟩ := h4 h0
        cases hb
    subst h0
    clear h4
    have hE : ∀ w : World, (binOp .eql 28 (.slice none 0 cap) (.slice none 0 0)).run Try.prog w = .ok (.bool true) w := fun w => by kernel_rfl
    go_enter Try.func70, Try.ntmps70
    go_wp2_with fail
    go_ret
    exact ⟨_, rfl, World.ownsRow_nil _ _ _ _, Below.refl _ _⟩
  | some ad =>
    clear h4
    have hE : ∀ w : World, (binOp .eql 28 (.slice (some ad) l.length cap) (.slice none 0 0)).run Try.prog w = .ok (.bool false) w := fun w => by kernel_rfl
    go_enter Try.func70, Try.ntmps70
    go_wp2_with (at_builtin; refine app_flds rfl _ _ _ _ rfl Try.underlying28 _ Try.infoFH rfl w.heap.size _ 0 _ rfl HO.out _ rfl l HVA.out hlen0 hmx0 hszA ?_; intro v1 w1 h1 h2; rw [Nat.zero_add] at h1; have HB1 := Kp.mk (HBA.out.grown h2 hszA fun k hk => (HO.out.lt k hk).1); have HO1 := Kp.mk h1; clear h1 h2)
    go_ret
    exact ⟨_, rfl, HO1.out, HB1.out⟩
set_option maxRecDepth 100000 in
set_option maxHeartbeats 4000000 in
theorem datefix_any (v : Value) (l : List Fld) (now : Int) (w : World) (hv : RdF w v l) (hz : ∀ p ∈ l, FldSm p) (hl : l.length ≤ 10000) (n0 : -9223372036854775808 ≤ now) (n1 : now ≤ 9223372036854775807) :
    Calls Try.prog 21 #[v, .int .i64 now] w (RetF (dfL now l) w) := by
  have HV := Kp.mk hv
  have HZ := Kp.mk hz
  have HFX := Kp.mk (fun (x : ByteArray) w (hx : x.size ≤ 100000) => hdfix_any now x.data.toList w (by rw [← ba_size']; exact hx) n0 n1)
  have hofl : ∀ x : ByteArray, ofL x.data.toList = x := fun x => ba_ext (by simp [ofL])
  have HOL := Kp.mk hofl
  clear hz hv hofl n0 n1
  go_enter Try.func21, Try.ntmps21
  go_wp2_with fail
  refine (cloneD_any v l _ HV.out hl).mono ?_
  rintro e w1 ⟨u, rfl, ho, hb⟩
  obtain ⟨a, c, rfl⟩ := own_lenH ho
  have hform := own_formD ho
  have HO := Kp.mk ho
  have HB := Kp.mk hb
  clear ho hb HV
  go_wp2_with fail
  go_loopw [11] (fun i wr => ∃ k : Nat, k ≤ l.length ∧ i = .int .i64 k ∧ wr.ownsRow w.heap.size 35 2 (.slice a l.length c) l.length (fvH (dfT now l k)) ∧ Below w.heap.size w wr) (fun i _ => l.length - (intOf i).toNat)
  case atStart => exact ⟨0, by omega, rfl, by rw [dfT_zero]; exact HO.out, HB.out⟩
  case round =>
    obtain ⟨k, hk, rfl, hown, hb⟩ := hrel
    have HOW := Kp.mk hown
    have HBW := Kp.mk hb
    have HRD := Kp.mk (rdf_own (l := dfT now l k) (by rw [dfT_len]; exact hown))
    clear hown hb HO HB
    by_cases hlt : k < l.length
    · have hlt2 : k < (dfT now l k).length := by rw [dfT_len]; exact hlt
      have hfm : ∃ g, a = some ⟨g, 0, none⟩ := by
        rcases hform with ⟨_, h0⟩ | ⟨g, h0⟩
        · omega
        · exact ⟨g, h0⟩
      obtain ⟨g, rfl⟩ := hfm
      obtain ⟨c1, c2, hgl⟩ := rdf_at HRD.out hlt2
      rw [dfT_at hlt, Nat.zero_add] at c1 c2
      obtain ⟨m1, m2⟩ := HZ.out l[k] (List.getElem_mem hlt)
      have HST := Kp.mk (fun h => dfT_keep (now := now) hlt h)
      have HSS := Kp.mk (dfT_step (now := now) hlt)
      have HFV := Kp.mk (fun y => fvH_set (dfT now l k) k hlt2 y)
      have HAT := Kp.mk (dfT_at (now := now) hlt)
      have q0 : (0 : Int) ≤ (k : Int) := by omega
      have q1 : (k : Int) < (l.length : Int) := by omega
      have hgz : w.heap.size ≤ g := (HOW.out.lt g rfl).1
      generalize hp : l[k] = p at *
      obtain ⟨nm, x⟩ := p
      dsimp only at c1 c2 m1 m2 HST
      clear hp
      go_wp2_with fail
      refine (dated_any nm _ m1).mono ?_
      rintro e w5 ⟨rfl, hb5⟩
      have HO5 := Kp.mk (own_bel HOW.out hb5)
      have HB5 := Kp.mk (HBW.out.trans (hb5.mono HBW.out.size))
      have c25 := (hb5.cell (p := ⟨g, _, none⟩) hgl).trans c2
      have hgl5 := Nat.lt_of_lt_of_le hgl hb5.size
      clear hb5 c1 c2
      cases hd : datB nm
      · have HS2 := Kp.mk (HST.out hd)
        go_wp2_with fail
        go_roundw
        case rel => exact ⟨k + 1, by omega, by go_num, by rw [HS2.out]; exact HO5.out, HB5.out⟩
        case measure => simp [intOf]; omega
      · have HFC := Kp.mk (fun w => HFX.out x w m2)
        rw [HOL.out x] at HFC
        have HDV := Kp.mk (show dfG now (nm, x) = (nm, fixF now x.data.toList) by unfold dfG dfV; rw [hd]; rfl)
        go_wp2_with fail
        refine (HFC.out _).mono ?_
        rintro e w6 ⟨rfl, hb6⟩
        have HO6 := Kp.mk (own_bel HO5.out hb6)
        have HB6 := Kp.mk (HB5.out.trans (hb6.mono HB5.out.size))
        have c26 := (hb6.cell (p := ⟨g, _, none⟩) hgl5).trans c25
        have f6 : w6.frozen? ⟨g, k * 2 + 1, none⟩ = false := by
          rcases HO6.out.2 with ⟨h0, _⟩ | ⟨_, _, _, h0, _, h1, _⟩
          · cases h0
          · cases h0
            exact blk_free h1
        clear hb6 c25
        generalize fixF now x.data.toList = y at *
        go_wp2_with fail
        go_roundw
        case rel =>
          refine ⟨k + 1, by omega, by go_num, ?_, HB6.out.setCell hgz _⟩
          have h9 := own_store2 (u := .string y) (k := k * 2 + 1) HO6.out (by omega)
          rw [HSS.out, HDV.out]
          rw [HFV.out y, HAT.out] at h9
          exact h9
        case measure => simp [intOf]; omega
    · have HK := Kp.mk (dfT_all (now := now) (l := l) (k := k) (by omega))
      go_wp2_with fail
      go_ret
      exact ⟨_, rfl, by rw [← HK.out, dfT_len]; exact HOW.out, HBW.out⟩
end Go.Proofs.Ytgamekfickheaaa
