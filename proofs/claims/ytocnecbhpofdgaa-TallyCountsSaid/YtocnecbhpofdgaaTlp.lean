/- Tally (layer 49): Methods and Statuses, up to what ranked tells. -/
import Derived.Test.YtocnecbhpofdgaaTlh
import Derived.Test.YtocnecbhpofdgaaTlo
import Derived.Deep.DeepCutAuto
namespace Go.Proofs.Ytocnecbhpofdgaa
open Go.RowKit
set_option linter.unusedVariables false
set_option linter.unusedSimpArgs false

theorem Tys.more {B b n : Nat} {F : ByteArray → Int} {w : World} (h : Tys B b n F w) : Tys B b (n + 1) F w := by
  obtain ⟨h1, h2, mo, h3, h4⟩ := h
  refine ⟨h1, h2, mo, h3, ?_⟩
  rcases h4 with h4 | ⟨m, D, e1, e2, e3, e4, e5⟩
  · exact .inl h4
  · exact .inr ⟨m, D, e1, e2, e3, e4.mono (Nat.le_succ _), e5⟩
theorem msg_cellsW {wr : World} {b o k c : Nat} {l : List Msg} (d : ∀ (j : Nat) (h : j < l.length) (i : Nat) (u : Value), (msgC l[j])[i]? = some u → wr.cell? ⟨b, o + j * 11 + i, none⟩ = some u) (h : k < l.length) (m t : ByteArray) (mi st : Int) (r : ByteArray) (fa : Option Addr) (fn fc : Nat) (fk ln : Int) (bd : ByteArray) (sa : Option Addr) (sn sc : Nat) (ta : Option Addr) (tn tc : Nat) (hx : l[k] = ⟨m, t, mi, st, r, fa, fn, fc, fk, ln, bd, sa, sn, sc, ta, tn, tc⟩) :
    wr.cell? ⟨b, o + k * 11, none⟩ = some (.string m) ∧ wr.cell? ⟨b, o + k * 11 + 1, none⟩ = some (.string t) ∧ wr.cell? ⟨b, o + k * 11 + 2, none⟩ = some (.int .i64 mi) ∧ wr.cell? ⟨b, o + k * 11 + 3, none⟩ = some (.int .i64 st) ∧ wr.cell? ⟨b, o + k * 11 + 4, none⟩ = some (.string r) ∧ wr.cell? ⟨b, o + k * 11 + 5, none⟩ = some (.slice fa fn fc) ∧ wr.cell? ⟨b, o + k * 11 + 6, none⟩ = some (.int .i64 fk) ∧ wr.cell? ⟨b, o + k * 11 + 7, none⟩ = some (.int .i64 ln) ∧ wr.cell? ⟨b, o + k * 11 + 8, none⟩ = some (.string bd) ∧ wr.cell? ⟨b, o + k * 11 + 9, none⟩ = some (.slice sa sn sc) ∧ wr.cell? ⟨b, o + k * 11 + 10, none⟩ = some (.slice ta tn tc) := by
  have d' := fun i u => d k h i u
  rw [hx] at d'
  exact ⟨d' 0 _ rfl, d' 1 _ rfl, d' 2 _ rfl, d' 3 _ rfl, d' 4 _ rfl, d' 5 _ rfl, d' 6 _ rfl, d' 7 _ rfl, d' 8 _ rfl, d' 9 _ rfl, d' 10 _ rfl⟩
set_option maxRecDepth 100000 in
set_option maxHeartbeats 2000000 in
theorem tmeths_of (v : Value) (l : List Msg) (w : World) (hv : RdM w v l) (hz : ∀ x ∈ l, MsgSm x) (hl : l.length ≤ 1000) (R : Value → World → Prop)
    (hR : ∀ W, Tys w.heap.size w.heap.size l.length (ctB (keysM true l)) W → Below w.heap.size w W → Calls Try.prog 35 #[.pointer (some ⟨w.heap.size, 0, none⟩)] W fun e w' => ∃ u, e = .returned u ∧ R u w') :
    Calls Try.prog 13 #[v] w fun e w' => ∃ u, e = .returned u ∧ R u w' := by
  have HV := Kp.mk hv
  have HR := Kp.mk hR
  have HZ := Kp.mk hz
  obtain ⟨a, c, rfl, hc1, hc2, -⟩ := hv
  have hT := heap_alloc_new w (.cells #[.map none, .string ByteArray.empty, .int .i64 0] 71)
  have HT := Kp.mk (show Tys w.heap.size w.heap.size 0 (ctB (keysM true (l.take 0))) (w.alloc (.cells #[.map none, .string ByteArray.empty, .int .i64 0] 71)) from ⟨Nat.le_refl _, fun x => by simp [keysM, ctB], none, hT, .inl ⟨rfl, rfl⟩⟩)
  have HB := Kp.mk ((Below.refl w.heap.size w).alloc (Nat.le_refl _) (.cells #[.map none, .string ByteArray.empty, .int .i64 0] 71))
  clear hR hz hT hc1 hc2
  go_enter Try.func13, Try.ntmps13
  go_upto_region 3 with fail
  go_loopw [8] (fun i wr => ∃ k : Nat, k ≤ l.length ∧ i = .int .i64 k ∧ Tys w.heap.size w.heap.size k (ctB (keysM true (l.take k))) wr ∧ Below w.heap.size w wr) (fun i _ => l.length - (intOf i).toNat)
  case atStart => exact ⟨0, Nat.zero_le _, rfl, HT.out, HB.out⟩
  case round =>
    obtain ⟨k, hk, rfl, ht, hb⟩ := hrel
    have HTK := Kp.mk ht
    have HBK := Kp.mk hb
    have hszk := hb.size
    clear ht hb
    by_cases hlt : k < l.length
    · obtain ⟨b, o, rfl, hbl, d⟩ := rdm_cells (HV.out.below HBK.out) (by omega)
      have HS := Kp.mk (HZ.out _ (List.getElem_mem hlt))
      have HKT := Kp.mk (keysM_take (meth := true) hlt)
      have HKL := Kp.mk (show (keysM true (l.take k)).length ≤ 100000 by have := keysM_len true (l.take k); rw [List.length_take] at this; omega)
      obtain ⟨f, hf⟩ : ∃ f, l[k] = f := ⟨_, rfl⟩
      rw [hf] at HS HKT
      obtain ⟨m, t, mi, st, r, fa, fn, fc, fk, ln, bd, sa, sn, sc, ta, tn, tc⟩ := f
      obtain ⟨d0, d1, d2, d3, d4, d5, d6, d7, d8, d9, d10⟩ := msg_cellsW (c := 0) d hlt _ _ _ _ _ _ _ _ _ _ _ _ _ _ _ _ _ hf
      unfold keyM at HKT
      dsimp only [MsgSm] at HS HKT
      clear d hf
      have HBA := Kp.mk ((Below.refl wr.heap.size wr).alloc (Nat.le_refl _) (.cells #[.string m, .string t, .int .i64 mi, .int .i64 st, .string r, .slice fa fn fc, .int .i64 fk, .int .i64 ln, .string bd, .slice sa sn sc, .slice ta tn tc] 32))
      have q1 : (k : Int) < (l.length : Int) := by omega
      have q0 : (0 : Int) ≤ (k : Int) := by omega
      have HTA := Kp.mk (HTK.out.below HBA.out)
      by_cases hm : m.size = 0
      · have he : m = ⟨#[]⟩ := (ByteArray.size_eq_zero_iff.1 hm).trans rfl
        subst he
        have HK2 := Kp.mk (HKT.out.trans (by rw [if_pos rfl, if_pos hm, List.append_nil]))
        clear hm HKT
        go_wp2_with fail
        go_roundw
        case rel => exact ⟨k + 1, by omega, by go_num, by rw [HK2.out]; exact HTA.out.more, HBK.out.trans (HBA.out.mono hszk)⟩
        case measure => simp [intOf]; omega
      · have hx2 : ¬ m.toList = [] := fun e => hm (by rw [ba_size', ← ByteArray.toList_eq, e]; rfl)
        have hx3 : m.toList.isEmpty = false := by rw [List.isEmpty_eq_false_iff]; exact hx2
        have HK2 := Kp.mk (HKT.out.trans (by rw [if_pos rfl, if_neg hm]))
        have HA := Kp.mk (tadds_any w.heap.size w.heap.size k _ m 1 _ HTA.out (by have := HS.out.1; unfold maxLen; omega) (by omega) (by have := HBA.out.size; omega))
        clear hm HKT
        go_wp2_with fail
        refine HA.out.mono ?_
        rintro e w3 ⟨rfl, ht3, hb3⟩
        have HT3 := Kp.mk ht3
        have HB3 := Kp.mk hb3
        clear ht3 hb3 HA
        go_wp2_with fail
        go_roundw
        case rel => exact ⟨k + 1, by omega, by go_num, by rw [HK2.out, ctB_snoc _ _ HKL.out]; exact HT3.out, (HBK.out.trans (HBA.out.mono hszk)).trans HB3.out⟩
        case measure => simp [intOf]; omega
    · have hkn : k = l.length := by omega
      subst hkn
      have HTL := Kp.mk (HR.out wr (by have := HTK.out; rwa [List.take_length] at this) HBK.out)
      go_wp2_with fail
      refine HTL.out.mono ?_
      rintro e w2 ⟨u, rfl, hr⟩
      go_wp2_with fail
      go_ret
      exact ⟨u, rfl, hr⟩
set_option maxRecDepth 100000 in
set_option maxHeartbeats 2000000 in
theorem tstats_of (v : Value) (l : List Msg) (w : World) (hv : RdM w v l) (hz : ∀ x ∈ l, MsgSm x) (hl : l.length ≤ 1000) (R : Value → World → Prop)
    (hR : ∀ W, Tys w.heap.size w.heap.size l.length (ctB (keysM false l)) W → Below w.heap.size w W → Calls Try.prog 35 #[.pointer (some ⟨w.heap.size, 0, none⟩)] W fun e w' => ∃ u, e = .returned u ∧ R u w') :
    Calls Try.prog 15 #[v] w fun e w' => ∃ u, e = .returned u ∧ R u w' := by
  have HV := Kp.mk hv
  have HR := Kp.mk hR
  have HZ := Kp.mk hz
  obtain ⟨a, c, rfl, hc1, hc2, -⟩ := hv
  have hT := heap_alloc_new w (.cells #[.map none, .string ByteArray.empty, .int .i64 0] 71)
  have HT := Kp.mk (show Tys w.heap.size w.heap.size 0 (ctB (keysM false (l.take 0))) (w.alloc (.cells #[.map none, .string ByteArray.empty, .int .i64 0] 71)) from ⟨Nat.le_refl _, fun x => by simp [keysM, ctB], none, hT, .inl ⟨rfl, rfl⟩⟩)
  have HB := Kp.mk ((Below.refl w.heap.size w).alloc (Nat.le_refl _) (.cells #[.map none, .string ByteArray.empty, .int .i64 0] 71))
  clear hR hz hT hc1 hc2
  go_enter Try.func15, Try.ntmps15
  go_upto_region 3 with fail
  go_loopw [8] (fun i wr => ∃ k : Nat, k ≤ l.length ∧ i = .int .i64 k ∧ Tys w.heap.size w.heap.size k (ctB (keysM false (l.take k))) wr ∧ Below w.heap.size w wr) (fun i _ => l.length - (intOf i).toNat)
  case atStart => exact ⟨0, Nat.zero_le _, rfl, HT.out, HB.out⟩
  case round =>
    obtain ⟨k, hk, rfl, ht, hb⟩ := hrel
    have HTK := Kp.mk ht
    have HBK := Kp.mk hb
    have hszk := hb.size
    clear ht hb
    by_cases hlt : k < l.length
    · obtain ⟨b, o, rfl, hbl, d⟩ := rdm_cells (HV.out.below HBK.out) (by omega)
      have HS := Kp.mk (HZ.out _ (List.getElem_mem hlt))
      have HKT := Kp.mk (keysM_take (meth := false) hlt)
      have HKL := Kp.mk (show (keysM false (l.take k)).length ≤ 100000 by have := keysM_len false (l.take k); rw [List.length_take] at this; omega)
      obtain ⟨f, hf⟩ : ∃ f, l[k] = f := ⟨_, rfl⟩
      rw [hf] at HS HKT
      obtain ⟨m, t, mi, st, r, fa, fn, fc, fk, ln, bd, sa, sn, sc, ta, tn, tc⟩ := f
      obtain ⟨d0, d1, d2, d3, d4, d5, d6, d7, d8, d9, d10⟩ := msg_cellsW (c := 0) d hlt _ _ _ _ _ _ _ _ _ _ _ _ _ _ _ _ _ hf
      unfold keyM at HKT
      dsimp only [MsgSm] at HS HKT
      clear d hf
      have HBA := Kp.mk ((Below.refl wr.heap.size wr).alloc (Nat.le_refl _) (.cells #[.string m, .string t, .int .i64 mi, .int .i64 st, .string r, .slice fa fn fc, .int .i64 fk, .int .i64 ln, .string bd, .slice sa sn sc, .slice ta tn tc] 32))
      have q1 : (k : Int) < (l.length : Int) := by omega
      have q0 : (0 : Int) ≤ (k : Int) := by omega
      have HTA := Kp.mk (HTK.out.below HBA.out)
      by_cases hm : m.size = 0
      · have he : m = ⟨#[]⟩ := (ByteArray.size_eq_zero_iff.1 hm).trans rfl
        subst he
        have HK2 := Kp.mk (HKT.out.trans (by rw [if_neg (by simp), if_pos hm]))
        clear hm HKT
        have hq := quo_in HS.out.2.1 HS.out.2.2
        have hzt : (ofL (textL (st.tdiv 100))).size ≤ 21 := by rw [ofL_size]; exact textL_len _
        have HTX := Kp.mk (fun W => text_any (st.tdiv 100) W hq.1 hq.2)
        generalize ofL (textL (st.tdiv 100)) = z at *
        have hz1 : (z ++ (⟨#[120, 120]⟩ : ByteArray)).size ≤ 23 := by rw [ByteArray.size_append]; have : (⟨#[120, 120]⟩ : ByteArray).size = 2 := rfl; omega
        go_wp2_with fail
        refine (HTX.out _).mono ?_
        rintro e w2 ⟨rfl, hb2⟩
        have HB2 := Kp.mk (HBA.out.trans (hb2.mono HBA.out.size))
        have HT2 := Kp.mk (HTK.out.below HB2.out)
        have HA := Kp.mk (tadds_any w.heap.size w.heap.size k _ (z ++ (⟨#[120, 120]⟩ : ByteArray)) 1 w2 HT2.out (by unfold maxLen; omega) (by omega) (Nat.le_trans hszk HB2.out.size))
        clear hb2
        go_wp2_with fail
        refine HA.out.mono ?_
        rintro e w3 ⟨rfl, ht3, hb3⟩
        have HT3 := Kp.mk ht3
        have HB3 := Kp.mk hb3
        clear ht3 hb3 HA
        go_wp2_with fail
        go_roundw
        case rel => exact ⟨k + 1, by omega, by go_num, by rw [HK2.out, ctB_snoc _ _ HKL.out]; exact HT3.out, (HBK.out.trans (HB2.out.mono hszk)).trans HB3.out⟩
        case measure => simp [intOf]; omega
      · have hx2 : ¬ m.toList = [] := fun e => hm (by rw [ba_size', ← ByteArray.toList_eq, e]; rfl)
        have hx3 : m.toList.isEmpty = false := by rw [List.isEmpty_eq_false_iff]; exact hx2
        have HK2 := Kp.mk (HKT.out.trans (by rw [if_neg (by simp), if_neg hm, List.append_nil]))
        clear hm HKT
        go_wp2_with fail
        go_roundw
        case rel => exact ⟨k + 1, by omega, by go_num, by rw [HK2.out]; exact HTA.out.more, HBK.out.trans (HBA.out.mono hszk)⟩
        case measure => simp [intOf]; omega
    · have hkn : k = l.length := by omega
      subst hkn
      have HTL := Kp.mk (HR.out wr (by have := HTK.out; rwa [List.take_length] at this) HBK.out)
      go_wp2_with fail
      refine HTL.out.mono ?_
      rintro e w2 ⟨u, rfl, hr⟩
      go_wp2_with fail
      go_ret
      exact ⟨u, rfl, hr⟩
end Go.Proofs.Ytocnecbhpofdgaa
