/- Fields without some names (layer 10), on both sides. -/
import Derived.Test.YtahehpgnemanmaaHdb
namespace Go.Proofs.Ytahehpgnemanmaa
open Go.RowKit
set_option linter.unusedVariables false
set_option linter.unusedSimpArgs false

def hHas (x : ByteArray) (ns : List ByteArray) : Bool := ns.any fun n => foldB x n
def hWo (l : List Fld) (ns : List ByteArray) : List Fld := l.filter fun p => !hHas p.1 ns
theorem hHas_take {x : ByteArray} {ns : List ByteArray} {k : Nat} (h : k < ns.length) : hHas x (ns.take (k + 1)) = (hHas x (ns.take k) || foldB x ns[k]) := by
  unfold hHas
  rw [List.take_succ_eq_append_getElem h, List.any_append]
  simp
theorem hHas_hit {x : ByteArray} {ns : List ByteArray} {k : Nat} (h : k < ns.length) (hf : foldB x ns[k] = true) : hHas x ns = true := List.any_eq_true.2 ⟨_, List.getElem_mem h, hf⟩
theorem hWo_take {l : List Fld} {ns : List ByteArray} {k : Nat} (h : k < l.length) : hWo (l.take (k + 1)) ns = hWo (l.take k) ns ++ (if hHas l[k].1 ns = true then [] else [l[k]]) := by
  unfold hWo
  rw [List.take_succ_eq_append_getElem h, List.filter_append]
  cases hf : hHas l[k].1 ns <;> simp [hf]
theorem hWo_len (l : List Fld) (ns : List ByteArray) : (hWo l ns).length ≤ l.length := List.length_filter_le _ _
theorem wo1_any (n x : ByteArray) (bx : Nat) (w : World) (hc : w.cell? ⟨bx, 0, none⟩ = some (.string x)) (hn : n.size ≤ 100000) (hx : x.size ≤ 100000) :
    Calls Try.prog 53 #[.string n, .pointer (some ⟨bx, 0, none⟩)] w fun e w' => e = .returned (.bool (foldB x n)) ∧ Below w.heap.size w w' := by
  go_enter Try.func53, Try.ntmps53
  go_wp2_with fail
  refine (oct_fold_any _ _ _ (by omega) (by omega)).mono ?_
  rintro e w1 ⟨rfl, hb⟩
  go_wp2_with fail
  go_ret
  exact ⟨rfl, hb⟩
def IdxPost (b : Bool) (w : World) (e : Ending) (w' : World) : Prop := ∃ r : Int, e = .returned (.int .i64 r) ∧ decide (0 ≤ r) = b ∧ Below w.heap.size w w'
set_option maxRecDepth 100000 in
set_option maxHeartbeats 2000000 in
theorem ixs_any (v : Value) (ns : List ByteArray) (x : ByteArray) (bx : Nat) (w : World) (hv : RdS w v ns) (hc : w.cell? ⟨bx, 0, none⟩ = some (.string x)) (hbx : bx < w.heap.size) (hz : ∀ n ∈ ns, n.size ≤ 100000) (hx : x.size ≤ 100000) (hl : ns.length ≤ 1000000) :
    Calls Try.prog 78 #[v, .func (.func 53) #[] #[.pointer (some ⟨bx, 0, none⟩)]] w (IdxPost (hHas x ns) w) := by
  have HV := Kp.mk hv
  have HZ := Kp.mk hz
  have HC := Kp.mk hc
  obtain ⟨a, cap, rfl, hc1, hc2, -⟩ := hv
  clear hz hc hc2
  go_enter Try.func78, Try.ntmps78
  go_wp2_with fail
  go_loopw [8] (fun i wr => ∃ k : Nat, k ≤ ns.length ∧ i = .int .i64 k ∧ hHas x (ns.take k) = false ∧ Below w.heap.size w wr) (fun i _ => ns.length - (intOf i).toNat)
  case atStart => exact ⟨0, by omega, rfl, rfl, Below.refl _ _⟩
  case round =>
    obtain ⟨k, hk, rfl, hh, hb⟩ := hrel
    have HB := Kp.mk hb
    have HH := Kp.mk hh
    have HCK := Kp.mk ((hb.cell (p := ⟨bx, 0, none⟩) hbx).trans HC.out)
    have hsz := hb.size
    clear hh hb
    by_cases hlt : k < ns.length
    · obtain ⟨g, o, rfl, hgl, d0⟩ := rds_cells (HV.out.below HB.out) (by omega)
      have c1 := d0 k hlt
      have m1 := HZ.out ns[k] (List.getElem_mem hlt)
      have q0 : (0 : Int) ≤ (k : Int) := by omega
      have q1 : (k : Int) < (ns.length : Int) := by omega
      have HT := Kp.mk (hHas_take (x := x) hlt)
      have HHit := Kp.mk (hHas_hit (x := x) hlt)
      clear d0
      generalize ns[k] = n at *
      go_wp2_with fail
      refine (wo1_any n x bx _ HCK.out m1 hx).mono ?_
      rintro e w2 ⟨rfl, hb2⟩
      have HB2 := Kp.mk (HB.out.trans (hb2.mono hsz))
      clear hb2
      cases hf : foldB x n
      · have HT2 := Kp.mk (show hHas x (ns.take (k + 1)) = false by rw [HT.out, hf, HH.out]; rfl)
        go_wp2_with fail
        go_roundw
        case rel => exact ⟨k + 1, by omega, by go_num, HT2.out, HB2.out⟩
        case measure => simp [intOf]; omega
      · have HT2 := Kp.mk (HHit.out hf)
        go_wp2_with fail
        go_ret
        exact ⟨_, rfl, by rw [HT2.out]; exact decide_eq_true (by omega), HB2.out⟩
    · have HK := Kp.mk (show hHas x ns = false by have := HH.out; rwa [List.take_of_length_le (by omega)] at this)
      go_wp2_with fail
      go_ret
      exact ⟨-1, rfl, by rw [HK.out]; rfl, HB.out⟩
theorem cof_any (v : Value) (ns : List ByteArray) (x : ByteArray) (bx : Nat) (w : World) (hv : RdS w v ns) (hc : w.cell? ⟨bx, 0, none⟩ = some (.string x)) (hbx : bx < w.heap.size) (hz : ∀ n ∈ ns, n.size ≤ 100000) (hx : x.size ≤ 100000) (hl : ns.length ≤ 1000000) :
    Calls Try.prog 52 #[v, .func (.func 53) #[] #[.pointer (some ⟨bx, 0, none⟩)]] w fun e w' => e = .returned (.bool (hHas x ns)) ∧ Below w.heap.size w w' := by
  have HC := Kp.mk hc
  have HV := Kp.mk hv
  have HZ := Kp.mk hz
  clear hc hv hz
  go_enter Try.func52, Try.ntmps52
  go_wp2_with fail
  refine (ixs_any v ns x bx _ HV.out HC.out hbx HZ.out hx hl).mono ?_
  rintro e w1 ⟨r, rfl, hr, hb⟩
  have HR := Kp.mk hr
  clear hr
  go_wp2_with fail
  go_ret
  exact ⟨by rw [← HR.out]; rfl, hb⟩
set_option maxRecDepth 100000 in
set_option maxHeartbeats 2000000 in
theorem hwo_any (v v2 : Value) (l : List Fld) (ns : List ByteArray) (w : World) (hv : RdF w v l) (hv2 : RdS w v2 ns) (hz : ∀ p ∈ l, FldSm p) (hz2 : ∀ n ∈ ns, n.size ≤ 100000) (hl : l.length ≤ 100000) (hl2 : ns.length ≤ 100000) :
    Calls Try.prog 28 #[v, v2] w (RetF (hWo l ns) w) := by
  have HV := Kp.mk hv
  have HV2 := Kp.mk hv2
  have HZ := Kp.mk hz
  have HZ2 := Kp.mk hz2
  obtain ⟨a, cap, rfl, hc1, hc2, -⟩ := hv
  clear hz hc2 hz2 hv2
  go_enter Try.func28, Try.ntmps28
  go_wp2_with fail
  go_loopw [5, 10] (fun vs i wr => ∃ k : Nat, k ≤ l.length ∧ i = .int .i64 k ∧ wr.ownsRow w.heap.size 61 2 vs (hWo (l.take k) ns).length (fvH (hWo (l.take k) ns)) ∧ Below w.heap.size w wr) (fun _ i _ => l.length - (intOf i).toNat)
  case atStart => exact ⟨0, by omega, rfl, World.ownsRow_nil _ _ _ _, Below.refl _ _⟩
  case round =>
    obtain ⟨k, hk, rfl, hown, hb⟩ := hrel
    obtain ⟨a2, cp, rfl⟩ := own_lenH hown
    have HB := Kp.mk hb
    have HO := Kp.mk hown
    have hsz := hb.size
    have hle := hWo_len (l.take k) ns
    rw [List.length_take] at hle
    clear hown hb
    by_cases hlt : k < l.length
    · obtain ⟨g, o, rfl, hgl, d0⟩ := rdf_cells (HV.out.below HB.out) (by omega)
      obtain ⟨c1, c2⟩ := d0 k hlt
      obtain ⟨m1, m2⟩ := HZ.out l[k] (List.getElem_mem hlt)
      have q0 : (0 : Int) ≤ (k : Int) := by omega
      have q1 : (k : Int) < (l.length : Int) := by omega
      have HT := Kp.mk (hWo_take (ns := ns) hlt)
      clear d0
      generalize l[k] = p at *
      obtain ⟨x, y⟩ := p
      simp only at c1 c2 m1 m2
      have HBA := Kp.mk (show Below wr.heap.size wr (wr.alloc (.cells #[.string x, .string y] 61)) from (Below.refl _ _).alloc (Nat.le_refl _) _)
      have HVA := Kp.mk ((HV2.out.below HB.out).below HBA.out)
      have b0 := blk_cell (i := 0) (heap_alloc_new wr (.cells #[.string x, .string y] 61)) rfl
      have HB0 := Kp.mk b0
      clear b0
      go_wp2_with fail
      refine (cof_any v2 ns x wr.heap.size _ HVA.out HB0.out (by simp) HZ2.out m1 (by omega)).mono ?_
      rintro e w2 ⟨rfl, hb2⟩
      have hz2 : wr.heap.size < w2.heap.size := by have := hb2.size; simp at this; omega
      have hk2 := (hb2.block wr.heap.size (by simp)).trans (heap_alloc_new wr (.cells #[.string x, .string y] 61))
      have d1 := blk_cell (i := 0) hk2 rfl
      have d2 := blk_cell (i := 1) hk2 rfl
      have HB2 := Kp.mk ((HB.out.alloc hsz (.cells #[.string x, .string y] 61)).trans (hb2.mono (by simp; omega)))
      have HO2 := Kp.mk (own_bel (HO.out.alloc (.cells #[.string x, .string y] 61)) hb2)
      have hsz2 := HB2.out.size
      clear hb2 hk2
      cases hf : hHas x ns
      · have HT2 := Kp.mk (show hWo (l.take (k + 1)) ns = hWo (l.take k) ns ++ [(x, y)] by rw [HT.out]; simp [hf])
        have hlen : ((hWo (l.take k) ns).length + 1) * 32 ≤ 140737488355328 := by omega
        have hmx : (hWo (l.take k) ns).length + 1 ≤ maxLen := by unfold maxLen; omega
        go_wp2_with (at_builtin; refine app_any rfl _ _ _ _ rfl Try.underlying32 _ _ _ Try.infoFH rfl (by omega) w.heap.size _ _ _ rfl HO2.out #[.string x, .string y] rfl (fun u hu => by simp at hu; rcases hu with rfl | rfl <;> rfl) _ rfl rfl hlen hmx hsz2 ?_; intro g' cap' w' h1 h2 h3; have H1 := Kp.mk h1; have H2 := Kp.mk h2; clear h1 h2 h3)
        go_roundw
        case rel =>
          refine ⟨k + 1, by omega, by go_num, ?_, HB2.out.trans ((grown_bel HO2.out hsz2 H2.out))⟩
          rw [HT2.out, List.length_append, fvH_snoc]
          exact H1.out
        case measure => simp [intOf]; omega
      · have HT2 := Kp.mk (show hWo (l.take (k + 1)) ns = hWo (l.take k) ns by rw [HT.out]; simp [hf])
        go_wp2_with fail
        go_roundw
        case rel => exact ⟨k + 1, by omega, by go_num, by rw [HT2.out]; exact HO2.out, HB2.out⟩
        case measure => simp [intOf]; omega
    · have HK := Kp.mk (show l.take k = l from List.take_of_length_le (by omega))
      go_wp2_with fail
      go_ret
      refine ⟨_, rfl, ?_, HB.out⟩
      have h9 := HO.out
      rw [HK.out] at h9 ⊢
      exact h9
end Go.Proofs.Ytahehpgnemanmaa
