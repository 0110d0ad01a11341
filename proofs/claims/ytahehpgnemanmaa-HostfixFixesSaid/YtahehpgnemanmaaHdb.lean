/- Lists of fields, or of texts, that are the same (layers 1, 9, 10). -/
import Derived.Test.YtahehpgnemanmaaHda
import Derived.Test.YtahehpgnemanmaaQs
namespace Go.Proofs.Ytahehpgnemanmaa
open Go.RowKit
set_option linter.unusedVariables false
set_option linter.unusedSimpArgs false

theorem ba_tl {a b : ByteArray} : a.toList = b.toList ↔ a = b := by
  constructor
  · intro h
    rw [ByteArray.toList_eq, ByteArray.toList_eq] at h
    cases a with | mk d => cases b with | mk d2 => simp at h; rw [h]
  · rintro rfl; rfl
theorem ba_tlb {a b : ByteArray} (h : a ≠ b) : (a.toList == b.toList) = false := by rw [beq_eq_false_iff_ne]; exact fun e => h (ba_tl.1 e)
theorem take_same {α : Type} {l m : List α} {k : Nat} (h1 : k < l.length) (h2 : k < m.length) (h : l.take k = m.take k) (he : l[k] = m[k]) : l.take (k + 1) = m.take (k + 1) := by
  rw [List.take_succ_eq_append_getElem h1, List.take_succ_eq_append_getElem h2, h, he]
def sameL {α : Type} [DecidableEq α] (l m : List α) : Bool := decide (l = m)
theorem sameL_len {α : Type} [DecidableEq α] {l m : List α} (h : l.length ≠ m.length) : sameL l m = false := decide_eq_false fun e => h (by rw [e])
theorem sameL_at {α : Type} [DecidableEq α] {l m : List α} {k : Nat} (h1 : k < l.length) (h2 : k < m.length) (h : l[k] ≠ m[k]) : sameL l m = false := decide_eq_false fun e => h (by subst e; rfl)
theorem sameL_all {α : Type} [DecidableEq α] {l m : List α} {k : Nat} (h1 : l.length = m.length) (hk : ¬ k < l.length) (h : l.take k = m.take k) : sameL l m = true := decide_eq_true (by rw [List.take_of_length_le (by omega), List.take_of_length_le (by omega)] at h; exact h)
set_option maxRecDepth 100000 in
set_option maxHeartbeats 2000000 in
theorem rfsame_any (v1 v2 : Value) (l m : List Fld) (w : World) (h1 : RdF w v1 l) (h2 : RdF w v2 m) (hl : l.length ≤ 1000000) (hm : m.length ≤ 1000000) :
    Calls Try.prog 21 #[v1, v2] w fun e w' => e = .returned (.bool (sameL l m)) ∧ Below w.heap.size w w' := by
  have H1 := Kp.mk h1
  have H2 := Kp.mk h2
  obtain ⟨a, cap, rfl, -, -, -⟩ := h1
  obtain ⟨a2, cap2, rfl, -, -, -⟩ := h2
  by_cases hlen : l.length = m.length
  · have hln : ((l.length : Int) != (m.length : Int)) = false := by rw [hlen]; simp
    have HLN := Kp.mk hlen
    clear hlen
    go_enter Try.func21, Try.ntmps21
    go_wp2_with fail
    go_loopw [5] (fun i wr => ∃ k : Nat, k ≤ l.length ∧ i = .int .i64 k ∧ l.take k = m.take k ∧ Below w.heap.size w wr) (fun i _ => l.length - (intOf i).toNat)
    case atStart => exact ⟨0, by omega, rfl, rfl, Below.refl _ _⟩
    case round =>
    obtain ⟨k, hk, rfl, ht, hb⟩ := hrel
    have HT := Kp.mk ht
    have HN := Kp.mk hb
    clear ht hb
    by_cases hlt : k < l.length
    · have hlt2 : k < m.length := by have := HLN.out; omega
      obtain ⟨g, o, rfl, hgl, d0⟩ := rdf_cells (H1.out.below HN.out) (by omega)
      obtain ⟨g2, o2, rfl, hgl2, d1⟩ := rdf_cells (H2.out.below HN.out) (by omega)
      obtain ⟨c1, c2⟩ := d0 k hlt
      obtain ⟨e1, e2⟩ := d1 k hlt2
      have q0 : (0 : Int) ≤ (k : Int) := by omega
      have q1 : (k : Int) < (l.length : Int) := by omega
      have q2 : (k : Int) < (m.length : Int) := by omega
      clear d0 d1
      generalize hx1 : l[k] = x at *
      generalize hy1 : m[k] = y at *
      obtain ⟨x1, x2⟩ := x
      obtain ⟨y1, y2⟩ := y
      simp only at c1 c2 e1 e2
      by_cases hxy : x1 = y1
      · by_cases hxz : x2 = y2
        · subst hxy; subst hxz
          have HXY := Kp.mk (show l[k] = m[k] by rw [hx1, hy1])
          clear hx1 hy1
          go_wp2_with fail
          go_quiet (fail)
          go_wp2_with fail
          go_roundw
          case rel => exact ⟨k + 1, by omega, by go_num, take_same hlt hlt2 HT.out HXY.out, HN.out.trans ((gdrewN wr nq).mono HN.out.size)⟩
          case measure => simp [intOf]; omega
        · subst hxy
          have HXY := Kp.mk (show l[k] ≠ m[k] by rw [hx1, hy1]; intro e; cases e; exact hxz rfl)
          have t2 := ba_tlb hxz
          have t3 : ¬ (x2.toList = y2.toList) := fun e => hxz (ba_tl.1 e)
          clear hx1 hy1
          go_wp2_with fail
          go_quiet (fail)
          go_wp2_with fail
          go_ret
          exact ⟨by rw [sameL_at hlt hlt2 HXY.out]; rfl, HN.out.trans ((gdrewN wr nq).mono HN.out.size)⟩
      · have HXY := Kp.mk (show l[k] ≠ m[k] by rw [hx1, hy1]; intro e; cases e; exact hxy rfl)
        have t2 := ba_tlb hxy
        have t3 : ¬ (x1.toList = y1.toList) := fun e => hxy (ba_tl.1 e)
        clear hx1 hy1
        go_wp2_with fail
        go_quiet (fail)
        go_wp2_with fail
        go_ret
        exact ⟨by rw [sameL_at hlt hlt2 HXY.out]; rfl, HN.out.trans ((gdrewN wr nq).mono HN.out.size)⟩
    · have HS := Kp.mk (sameL_all HLN.out hlt HT.out)
      go_wp2_with fail
      go_ret
      exact ⟨by rw [HS.out]; rfl, HN.out⟩
  · have hln : ((l.length : Int) != (m.length : Int)) = true := by rw [bne_iff_ne]; omega
    have HS := Kp.mk (sameL_len hlen)
    clear hlen
    go_enter Try.func21, Try.ntmps21
    go_wp2_with fail
    go_ret
    exact ⟨by rw [HS.out]; rfl, Below.refl _ _⟩
end Go.Proofs.Ytahehpgnemanmaa
