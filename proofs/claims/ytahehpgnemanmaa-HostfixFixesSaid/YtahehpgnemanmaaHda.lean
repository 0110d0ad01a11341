/- Fields in their order (layer 10): plain functions; rows of the call's own; Is, All, Count. -/
import Derived.Test.YtahehpgnemanmaaFdt
import Derived.Test.YtahehpgnemanmaaFold
import Derived.Test.YtahehpgnemanmaaOctr
namespace Go.Proofs.Ytahehpgnemanmaa
open Go.RowKit
set_option linter.unusedVariables false
set_option linter.unusedSimpArgs false

def svH (l : List ByteArray) : List Value := l.flatMap strC
theorem svH_snoc (l : List ByteArray) (s : ByteArray) : svH (l ++ [s]) = svH l ++ [.string s] := by simp [svH, strC]
def fvH (l : List Fld) : List Value := l.flatMap fldC
theorem fvH_snoc (l : List Fld) (p : Fld) : fvH (l ++ [p]) = fvH l ++ [.string p.1, .string p.2] := by simp [fvH, fldC]
theorem Try.infoSH : (Try.prog.info? 9).map (fun i => (i.zero, i.size, i.bytes)) = some (some (.string ByteArray.empty), 1, 16) := by kernel_rfl
theorem Try.infoFH : (Try.prog.info? 61).map (fun i => (i.zero, i.size, i.bytes)) = some (some (.agg #[.string ByteArray.empty, .string ByteArray.empty]), 2, 32) := by kernel_rfl
theorem own_bel {w w' : World} {B : Nat} {e : TypeId} {sz n : Nat} {v : Value} {xs : List Value} (h : w.ownsRow B e sz v n xs) (hb : Below w.heap.size w w') : w'.ownsRow B e sz v n xs := by
  refine ⟨h.1, ?_⟩
  rcases h.2 with h | ⟨g, cap, cur, rfl, hg, hh, rest⟩
  · exact .inl h
  · exact .inr ⟨g, cap, cur, rfl, hg, (hb.block g (blk_lt hh)).trans hh, rest⟩
theorem own_lenH {w : World} {B : Nat} {e : TypeId} {sz n : Nat} {v : Value} {xs : List Value} (h : w.ownsRow B e sz v n xs) : ∃ a c, v = .slice a n c := by
  rcases h.2 with ⟨rfl, rfl⟩ | ⟨g, cap, cur, rfl, _⟩
  · exact ⟨_, _, rfl⟩
  · exact ⟨_, _, rfl⟩
theorem grown_bel {B : Nat} {w w' : World} {o : Obj} {v : Value} {e : TypeId} {sz n : Nat} {xs : List Value} (hown : w.ownsRow B e sz v n xs) (hB : B ≤ w.heap.size) (h : (w.alloc o).grownBy w' v.ownBlock) : Below B w w' :=
  ((Below.refl B w).alloc hB o).grown h (by simp; omega) fun k hk => (hown.lt k hk).1
/-- It tells texts, in a row of its own. -/
def RetS (l : List ByteArray) (w : World) (e : Ending) (w' : World) : Prop := ∃ v, e = .returned v ∧ w'.ownsRow w.heap.size 9 1 v l.length (svH l) ∧ Below w.heap.size w w'
def RetF (l : List Fld) (w : World) (e : Ending) (w' : World) : Prop := ∃ v, e = .returned v ∧ w'.ownsRow w.heap.size 61 2 v l.length (fvH l) ∧ Below w.heap.size w w'
theorem rds_own {w : World} {B : Nat} {v : Value} {l : List ByteArray} (h : w.ownsRow B 9 1 v l.length (svH l)) : RdS w v l := RdL.of_own (f := strC) (fun _ => rfl) h
theorem rdf_own {w : World} {B : Nat} {v : Value} {l : List Fld} (h : w.ownsRow B 61 2 v l.length (fvH l)) : RdF w v l := RdL.of_own (f := fldC) (fun _ => rfl) h
theorem rdf_cells {w : World} {a : Option Addr} {c n : Nat} {l : List Fld} (h : RdF w (.slice a n c) l) (h0 : 0 < l.length) : ∃ b o, a = some ⟨b, o, none⟩ ∧ b < w.heap.size ∧ ∀ (j : Nat) (h : j < l.length), w.cell? ⟨b, o + j * 2, none⟩ = some (.string l[j].1) ∧ w.cell? ⟨b, o + j * 2 + 1, none⟩ = some (.string l[j].2) := by
  obtain ⟨a', c', h1, h2, h3, h4⟩ := h
  cases h1
  obtain ⟨b, o, g1, g2, g3⟩ := h4 h0
  exact ⟨b, o, g1, g2, fun j hj => ⟨by have := g3 j hj 0 (by omega); simpa [fldC] using this, by have := g3 j hj 1 (by omega); simpa [fldC] using this⟩⟩
theorem rds_cells {w : World} {a : Option Addr} {c n : Nat} {l : List ByteArray} (h : RdS w (.slice a n c) l) (h0 : 0 < l.length) : ∃ b o, a = some ⟨b, o, none⟩ ∧ b < w.heap.size ∧ ∀ (j : Nat) (h : j < l.length), w.cell? ⟨b, o + j, none⟩ = some (.string l[j]) := by
  obtain ⟨a', c', h1, h2, h3, h4⟩ := h
  cases h1
  obtain ⟨b, o, g1, g2, g3⟩ := h4 h0
  exact ⟨b, o, g1, g2, fun j hj => by have := g3 j hj 0 (by omega); simpa [strC] using this⟩
/-- So short. -/
def FldSm (p : Fld) : Prop := p.1.size ≤ 100000 ∧ p.2.size ≤ 100000
/-- P10.1: the values of the fields of that name. -/
def hAll (l : List Fld) (nm : ByteArray) : List ByteArray := (l.filter fun p => foldB p.1 nm).map (·.2)
theorem hAll_take {l : List Fld} {nm : ByteArray} {k : Nat} (h : k < l.length) : hAll (l.take (k + 1)) nm = hAll (l.take k) nm ++ (if foldB l[k].1 nm = true then [l[k].2] else []) := by
  unfold hAll
  rw [List.take_succ_eq_append_getElem h, List.filter_append, List.map_append]
  cases hf : foldB l[k].1 nm <;> simp [hf]
theorem hAll_len (l : List Fld) (nm : ByteArray) : (hAll l nm).length ≤ l.length := by unfold hAll; rw [List.length_map]; exact List.length_filter_le _ _
theorem is10_any (a b : ByteArray) (w : World) (ha : a.size ≤ 100000) (hb : b.size ≤ 100000) :
    Calls Try.prog 76 #[.string a, .string b] w fun e w' => e = .returned (.bool (foldB a b)) ∧ Below w.heap.size w w' := by
  go_enter Try.func76, Try.ntmps76
  go_wp2_with fail
  refine (ref_lower_any _ _ (by omega)).mono ?_
  rintro e w1 ⟨rfl, hb1⟩
  go_wp2_with fail
  refine (ref_lower_any _ _ (by omega)).mono ?_
  rintro e w2 ⟨rfl, hb2⟩
  go_wp2_with fail
  go_ret
  exact ⟨rfl, hb1.trans (hb2.mono hb1.size)⟩
set_option maxRecDepth 100000 in
set_option maxHeartbeats 2000000 in
theorem hall_any (v : Value) (l : List Fld) (nm : ByteArray) (w : World) (hv : RdF w v l) (hz : ∀ p ∈ l, FldSm p) (hl : l.length ≤ 100000) (hn : nm.size ≤ 100000) :
    Calls Try.prog 51 #[v, .string nm] w (RetS (hAll l nm) w) := by
  have HV := Kp.mk hv
  have HZ := Kp.mk hz
  obtain ⟨a, cap, rfl, hc1, hc2, -⟩ := hv
  clear hz hc2
  go_enter Try.func51, Try.ntmps51
  go_wp2_with fail
  go_loopw [5, 10] (fun vs i wr => ∃ k : Nat, k ≤ l.length ∧ i = .int .i64 k ∧ wr.ownsRow w.heap.size 9 1 vs (hAll (l.take k) nm).length (svH (hAll (l.take k) nm)) ∧ Below w.heap.size w wr) (fun _ i _ => l.length - (intOf i).toNat)
  case atStart => exact ⟨0, by omega, rfl, World.ownsRow_nil _ _ _ _, Below.refl _ _⟩
  case round =>
    obtain ⟨k, hk, rfl, hown, hb⟩ := hrel
    obtain ⟨a2, cp, rfl⟩ := own_lenH hown
    have HB := Kp.mk hb
    have HO := Kp.mk hown
    have hsz := hb.size
    have hle := hAll_len (l.take k) nm
    rw [List.length_take] at hle
    clear hown hb
    by_cases hlt : k < l.length
    · obtain ⟨g, o, rfl, hgl, d0⟩ := rdf_cells (HV.out.below HB.out) (by omega)
      obtain ⟨c1, c2⟩ := d0 k hlt
      obtain ⟨m1, m2⟩ := HZ.out l[k] (List.getElem_mem hlt)
      have q0 : (0 : Int) ≤ (k : Int) := by omega
      have q1 : (k : Int) < (l.length : Int) := by omega
      have HT := Kp.mk (hAll_take (nm := nm) hlt)
      clear d0
      generalize l[k].1 = x at *
      generalize l[k].2 = y at *
      go_wp2_with fail
      refine (oct_fold_any x nm _ (by omega) (by omega)).mono ?_
      rintro e w2 ⟨rfl, hb2⟩
      have hz2 : wr.heap.size < w2.heap.size := by have := hb2.size; simp at this; omega
      have d2 := blk_cell (i := 1) ((hb2.block wr.heap.size (by simp)).trans (heap_alloc_new wr _)) rfl
      have HB2 := Kp.mk ((HB.out.alloc hsz (.cells #[.string x, .string y] 61)).trans (hb2.mono (by simp; omega)))
      have HO2 := Kp.mk (own_bel (HO.out.alloc (.cells #[.string x, .string y] 61)) hb2)
      have hsz2 := HB2.out.size
      clear hb2
      cases hf : foldB x nm
      · have HT2 := Kp.mk (show hAll (l.take (k + 1)) nm = hAll (l.take k) nm by rw [HT.out, hf]; simp)
        go_wp2_with fail
        go_roundw
        case rel => exact ⟨k + 1, by omega, by go_num, by rw [HT2.out]; exact HO2.out, HB2.out⟩
        case measure => simp [intOf]; omega
      · have HT2 := Kp.mk (show hAll (l.take (k + 1)) nm = hAll (l.take k) nm ++ [y] by rw [HT.out, hf]; simp)
        have hlen : ((hAll (l.take k) nm).length + 1) * 16 ≤ 140737488355328 := by omega
        have hmx : (hAll (l.take k) nm).length + 1 ≤ maxLen := by unfold maxLen; omega
        go_wp2_with (at_builtin; refine app_any rfl _ _ _ _ rfl Try.underlying64 _ _ _ Try.infoSH rfl (by omega) w.heap.size _ _ _ rfl HO2.out _ rfl (fun u hu => by simp at hu; subst hu; rfl) _ rfl rfl hlen hmx hsz2 ?_; intro g' cap' w' h1 h2 h3; have H1 := Kp.mk h1; have H2 := Kp.mk h2; clear h1 h2 h3)
        go_roundw
        case rel =>
          refine ⟨k + 1, by omega, by go_num, ?_, HB2.out.trans ((grown_bel HO2.out hsz2 H2.out))⟩
          rw [HT2.out, List.length_append, svH_snoc]
          exact H1.out
        case measure => simp [intOf]; omega
    · have HK := Kp.mk (show l.take k = l from List.take_of_length_le (by omega))
      go_wp2_with fail
      go_ret
      refine ⟨_, rfl, ?_, HB.out⟩
      have h9 := HO.out
      rw [HK.out] at h9 ⊢
      exact h9
theorem hcount_any (v : Value) (l : List Fld) (nm : ByteArray) (w : World) (hv : RdF w v l) (hz : ∀ p ∈ l, FldSm p) (hl : l.length ≤ 100000) (hn : nm.size ≤ 100000) :
    Calls Try.prog 27 #[v, .string nm] w fun e w' => e = .returned (.int .i64 ((hAll l nm).length : Nat)) ∧ Below w.heap.size w w' := by
  go_enter Try.func27, Try.ntmps27
  go_wp2_with fail
  refine (hall_any v l nm _ hv hz hl hn).mono ?_
  rintro e w1 ⟨u, rfl, ho, hb⟩
  obtain ⟨a, c, rfl⟩ := own_lenH ho
  go_wp2_with fail
  go_ret
  exact ⟨rfl, hb⟩
set_option maxRecDepth 100000 in
set_option maxHeartbeats 2000000 in
theorem rhall_any (v : Value) (l : List Fld) (nm : ByteArray) (w : World) (hv : RdF w v l) (hz : ∀ p ∈ l, FldSm p) (hl : l.length ≤ 100000) (hn : nm.size ≤ 100000) :
    Calls Try.prog 47 #[v, .string nm] w (RetS (hAll l nm) w) := by
  have HV := Kp.mk hv
  have HZ := Kp.mk hz
  obtain ⟨a, cap, rfl, hc1, hc2, -⟩ := hv
  clear hz hc2
  go_enter Try.func47, Try.ntmps47
  go_wp2_with fail
  go_loopw [5, 6] (fun vs i wr => ∃ k : Nat, k ≤ l.length ∧ i = .int .i64 k ∧ wr.ownsRow w.heap.size 9 1 vs (hAll (l.take k) nm).length (svH (hAll (l.take k) nm)) ∧ Below w.heap.size w wr) (fun _ i _ => l.length - (intOf i).toNat)
  case atStart => exact ⟨0, by omega, rfl, World.ownsRow_lit (base := w.heap.size) (e := 9) (size := 1) w #[] 0 (Nat.le_refl _) (by unfold maxLen; omega) rfl, (Below.refl _ _).alloc (Nat.le_refl _) _⟩
  case round =>
    obtain ⟨k, hk, rfl, hown, hb⟩ := hrel
    obtain ⟨a2, cp, rfl⟩ := own_lenH hown
    have HB := Kp.mk hb
    have HO := Kp.mk hown
    have hsz := hb.size
    have hle := hAll_len (l.take k) nm
    rw [List.length_take] at hle
    clear hown hb
    by_cases hlt : k < l.length
    · obtain ⟨g, o, rfl, hgl, d0⟩ := rdf_cells (HV.out.below HB.out) (by omega)
      obtain ⟨c1, c2⟩ := d0 k hlt
      obtain ⟨m1, m2⟩ := HZ.out l[k] (List.getElem_mem hlt)
      have q0 : (0 : Int) ≤ (k : Int) := by omega
      have q1 : (k : Int) < (l.length : Int) := by omega
      have HT := Kp.mk (hAll_take (nm := nm) hlt)
      clear d0
      generalize l[k].1 = x at *
      generalize l[k].2 = y at *
      go_wp2_with fail
      refine (is10_any x nm _ (by omega) (by omega)).mono ?_
      rintro e w2 ⟨rfl, hb2⟩
      have d2 : w2.cell? ⟨g, o + k * 2 + 1, none⟩ = some (.string y) := (hb2.cell (p := ⟨g, _, none⟩) hgl).trans c2
      have HB2 := Kp.mk (HB.out.trans (hb2.mono hsz))
      have HO2 := Kp.mk (own_bel HO.out hb2)
      have hsz2 := HB2.out.size
      clear hb2
      cases hf : foldB x nm
      · have HT2 := Kp.mk (show hAll (l.take (k + 1)) nm = hAll (l.take k) nm by rw [HT.out, hf]; simp)
        go_wp2_with fail
        go_roundw
        case rel => exact ⟨k + 1, by omega, by go_num, by rw [HT2.out]; exact HO2.out, HB2.out⟩
        case measure => simp [intOf]; omega
      · have HT2 := Kp.mk (show hAll (l.take (k + 1)) nm = hAll (l.take k) nm ++ [y] by rw [HT.out, hf]; simp)
        have hlen : ((hAll (l.take k) nm).length + 1) * 16 ≤ 140737488355328 := by omega
        have hmx : (hAll (l.take k) nm).length + 1 ≤ maxLen := by unfold maxLen; omega
        go_wp2_with (at_builtin; refine app_any rfl _ _ _ _ rfl Try.underlying64 _ _ _ Try.infoSH rfl (by omega) w.heap.size _ _ _ rfl HO2.out _ rfl (fun u hu => by simp at hu; subst hu; rfl) _ rfl rfl hlen hmx hsz2 ?_; intro g' cap' w' h1 h2 h3; have H1 := Kp.mk h1; have H2 := Kp.mk h2; clear h1 h2 h3)
        go_roundw
        case rel =>
          refine ⟨k + 1, by omega, by go_num, ?_, HB2.out.trans ((grown_bel HO2.out hsz2 H2.out))⟩
          rw [HT2.out, List.length_append, svH_snoc]
          exact H1.out
        case measure => simp [intOf]; omega
    · have HK := Kp.mk (show l.take k = l from List.take_of_length_le (by omega))
      go_wp2_with fail
      go_ret
      refine ⟨_, rfl, ?_, HB.out⟩
      have h9 := HO.out
      rw [HK.out] at h9 ⊢
      exact h9
end Go.Proofs.Ytahehpgnemanmaa
