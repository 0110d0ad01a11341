/- Trailers (layer 26): which fields are kept, on both sides. -/
import Derived.Test.YtpgeheblmpjndaaTrc
import Derived.Test.YtpgeheblmpjndaaHdi
namespace Go.Proofs.Ytpgeheblmpjndaa
open Go.RowKit
set_option linter.unusedVariables false
set_option linter.unusedSimpArgs false

def keepL (l : List Fld) : List Fld := l.filter fun p => alwB p.1
theorem keepL_take {l : List Fld} {k : Nat} (h : k < l.length) : keepL (l.take (k + 1)) = keepL (l.take k) ++ (if alwB l[k].1 = true then [l[k]] else []) := by
  unfold keepL
  rw [List.take_succ_eq_append_getElem h, List.filter_append]
  cases hf : alwB l[k].1 <;> simp [hf]
theorem keepL_len (l : List Fld) : (keepL l).length ≤ l.length := List.length_filter_le _ _
theorem keepL_sm {l : List Fld} (h : ∀ p ∈ l, FldSm p) : ∀ p ∈ keepL l, FldSm p := fun p hp => h p (List.mem_filter.1 hp).1
set_option maxRecDepth 100000 in
set_option maxHeartbeats 2000000 in
theorem keep_any (v : Value) (l : List Fld) (w : World) (hv : RdF w v l) (hz : ∀ p ∈ l, FldSm p) (hl : l.length ≤ 100000) :
    Calls Try.prog 30 #[v] w (RetF (keepL l) w) := by
  have HV := Kp.mk hv
  have HZ := Kp.mk hz
  obtain ⟨a, cap, rfl, hc1, hc2, -⟩ := hv
  clear hz hc2
  go_enter Try.func30, Try.ntmps30
  go_wp2_with fail
  go_loopw [3, 7] (fun vs i wr => ∃ k : Nat, k ≤ l.length ∧ i = .int .i64 k ∧ wr.ownsRow w.heap.size 43 2 vs (keepL (l.take k)).length (fvH (keepL (l.take k))) ∧ Below w.heap.size w wr) (fun _ i _ => l.length - (intOf i).toNat)
  case atStart => exact ⟨0, by omega, rfl, World.ownsRow_nil _ _ _ _, Below.refl _ _⟩
  case round =>
    obtain ⟨k, hk, rfl, hown, hb⟩ := hrel
    obtain ⟨a2, cp, rfl⟩ := own_lenH hown
    have HB := Kp.mk hb
    have HO := Kp.mk hown
    have hsz := hb.size
    have hle := keepL_len (l.take k)
    rw [List.length_take] at hle
    clear hown hb
    by_cases hlt : k < l.length
    · have hRV := HV.out.below HB.out
      obtain ⟨g, o, rfl, hgl, d0⟩ := rdf_cells hRV (by omega)
      obtain ⟨c1, c2⟩ := d0 k hlt
      obtain ⟨m1, m2⟩ := HZ.out l[k] (List.getElem_mem hlt)
      have q0 : (0 : Int) ≤ (k : Int) := by omega
      have q1 : (k : Int) < (l.length : Int) := by omega
      have HT := Kp.mk (keepL_take hlt)
      clear d0 hRV
      generalize l[k] = p at *
      obtain ⟨x, y⟩ := p
      simp only at c1 c2 m1 m2
      go_wp2_with fail
      refine (allowed_any x _ m1).mono ?_
      rintro e w2 ⟨rfl, hb2⟩
      have d1 := (hb2.cell (p := ⟨g, o + k * 2, none⟩) hgl).trans c1
      have d2 := (hb2.cell (p := ⟨g, o + k * 2 + 1, none⟩) hgl).trans c2
      have HB2 := Kp.mk (HB.out.trans (hb2.mono hsz))
      have HO2 := Kp.mk (own_bel HO.out hb2)
      have hsz2 := HB2.out.size
      clear hb2 c1 c2
      cases hf : alwB x
      · have HT2 := Kp.mk (show keepL (l.take (k + 1)) = keepL (l.take k) by rw [HT.out]; simp [hf])
        go_wp2_with fail
        go_roundw
        case rel => exact ⟨k + 1, by omega, by go_num, by rw [HT2.out]; exact HO2.out, HB2.out⟩
        case measure => simp [intOf]; omega
      · have HT2 := Kp.mk (show keepL (l.take (k + 1)) = keepL (l.take k) ++ [(x, y)] by rw [HT.out]; simp [hf])
        have hlen : ((keepL (l.take k)).length + 1) * 32 ≤ 140737488355328 := by omega
        have hmx : (keepL (l.take k)).length + 1 ≤ maxLen := by unfold maxLen; omega
        go_wp2_with (at_builtin; refine app_any rfl _ _ _ _ rfl Try.underlying22 _ _ _ Try.infoFH rfl (by omega) w.heap.size _ _ _ rfl HO2.out #[.string x, .string y] rfl (fun u hu => by simp at hu; rcases hu with rfl | rfl <;> rfl) _ rfl rfl hlen hmx hsz2 ?_; intro g' cap' w' h1 h2 h3; have H1 := Kp.mk h1; have H2 := Kp.mk h2; clear h1 h2 h3)
        go_roundw
        case rel =>
          refine ⟨k + 1, by omega, by go_num, ?_, HB2.out.trans ((grown_bel HO2.out hsz2 H2.out))⟩
          rw [HT2.out, List.length_append, fvH_snoc]
          exact H1.out
        case measure => simp [intOf]; omega
    · have HK := Kp.mk (show l.take k = l from List.take_of_length_le (by omega))
      go_wp2_with fail
      go_ret
      refine ⟨_, rfl, ?_, HB.out⟩
      have h9 := HO.out
      rw [HK.out] at h9 ⊢
      exact h9
set_option maxRecDepth 100000 in
set_option maxHeartbeats 2000000 in
theorem rkeep_any (v : Value) (l : List Fld) (w : World) (hv : RdF w v l) (hz : ∀ p ∈ l, FldSm p) (hl : l.length ≤ 100000) :
    Calls Try.prog 31 #[v] w (RetF (keepL l) w) := by
  have HV := Kp.mk hv
  have HZ := Kp.mk hz
  obtain ⟨a, cap, rfl, hc1, hc2, -⟩ := hv
  clear hz hc2
  go_enter Try.func31, Try.ntmps31
  go_wp2_with fail
  go_loopw [3, 4] (fun vs i wr => ∃ k : Nat, k ≤ l.length ∧ i = .int .i64 k ∧ wr.ownsRow w.heap.size 43 2 vs (keepL (l.take k)).length (fvH (keepL (l.take k))) ∧ Below w.heap.size w wr) (fun _ i _ => l.length - (intOf i).toNat)
  case atStart => exact ⟨0, by omega, rfl, World.ownsRow_made _ _ 0 (Nat.le_refl _) (by unfold maxLen; omega) rfl, (Below.refl _ _).alloc (Nat.le_refl _) _⟩
  case round =>
    obtain ⟨k, hk, rfl, hown, hb⟩ := hrel
    obtain ⟨a2, cp, rfl⟩ := own_lenH hown
    have HB := Kp.mk hb
    have HO := Kp.mk hown
    have hsz := hb.size
    have hle := keepL_len (l.take k)
    rw [List.length_take] at hle
    clear hown hb
    by_cases hlt : k < l.length
    · have hRV := HV.out.below HB.out
      obtain ⟨g, o, rfl, hgl, d0⟩ := rdf_cells hRV (by omega)
      obtain ⟨c1, c2⟩ := d0 k hlt
      obtain ⟨m1, m2⟩ := HZ.out l[k] (List.getElem_mem hlt)
      have q0 : (0 : Int) ≤ (k : Int) := by omega
      have q1 : (k : Int) < (l.length : Int) := by omega
      have HT := Kp.mk (keepL_take hlt)
      clear d0 hRV
      generalize l[k] = p at *
      obtain ⟨x, y⟩ := p
      simp only at c1 c2 m1 m2
      go_wp2_with fail
      refine (rallowed_any x _ m1).mono ?_
      rintro e w2 ⟨rfl, hb2⟩
      have d1 := (hb2.cell (p := ⟨g, o + k * 2, none⟩) hgl).trans c1
      have d2 := (hb2.cell (p := ⟨g, o + k * 2 + 1, none⟩) hgl).trans c2
      have HB2 := Kp.mk (HB.out.trans (hb2.mono hsz))
      have HO2 := Kp.mk (own_bel HO.out hb2)
      have hsz2 := HB2.out.size
      clear hb2 c1 c2
      cases hf : alwB x
      · have HT2 := Kp.mk (show keepL (l.take (k + 1)) = keepL (l.take k) by rw [HT.out]; simp [hf])
        go_wp2_with fail
        go_roundw
        case rel => exact ⟨k + 1, by omega, by go_num, by rw [HT2.out]; exact HO2.out, HB2.out⟩
        case measure => simp [intOf]; omega
      · have HT2 := Kp.mk (show keepL (l.take (k + 1)) = keepL (l.take k) ++ [(x, y)] by rw [HT.out]; simp [hf])
        have hlen : ((keepL (l.take k)).length + 1) * 32 ≤ 140737488355328 := by omega
        have hmx : (keepL (l.take k)).length + 1 ≤ maxLen := by unfold maxLen; omega
        go_wp2_with (at_builtin; refine app_any rfl _ _ _ _ rfl Try.underlying22 _ _ _ Try.infoFH rfl (by omega) w.heap.size _ _ _ rfl HO2.out #[.string x, .string y] rfl (fun u hu => by simp at hu; rcases hu with rfl | rfl <;> rfl) _ rfl rfl hlen hmx hsz2 ?_; intro g' cap' w' h1 h2 h3; have H1 := Kp.mk h1; have H2 := Kp.mk h2; clear h1 h2 h3)
        go_roundw
        case rel =>
          refine ⟨k + 1, by omega, by go_num, ?_, HB2.out.trans ((grown_bel HO2.out hsz2 H2.out))⟩
          rw [HT2.out, List.length_append, fvH_snoc]
          exact H1.out
        case measure => simp [intOf]; omega
    · have HK := Kp.mk (show l.take k = l from List.take_of_length_le (by omega))
      go_wp2_with fail
      go_ret
      refine ⟨_, rfl, ?_, HB.out⟩
      have h9 := HO.out
      rw [HK.out] at h9 ⊢
      exact h9
end Go.Proofs.Ytpgeheblmpjndaa
