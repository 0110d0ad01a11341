/- Fields without some names, the document's; fields with one more (layer 10), on both sides. -/
import Derived.Test.YtkfpioadimkogaaDoorHde
import Derived.Laws.MakeOwn
namespace Go.Proofs.YtkfpioadimkogaaDoor
open Go.RowKit
set_option linter.unusedVariables false
set_option linter.unusedSimpArgs false

set_option maxRecDepth 100000 in
set_option maxHeartbeats 4000000 in
theorem rhwo_any (v v2 : Value) (l : List Fld) (ns : List ByteArray) (w : World) (hv : RdF w v l) (hv2 : RdS w v2 ns) (hz : ∀ p ∈ l, FldSm p) (hz2 : ∀ n ∈ ns, n.size ≤ 100000) (hl : l.length ≤ 100000) (hl2 : ns.length ≤ 100000) :
    Calls Tryd.prog 66 #[v, v2] w (RetF (hWo l ns) w) := by
  have HV := Kp.mk hv
  have HV2 := Kp.mk hv2
  have HZ := Kp.mk hz
  have HZ2 := Kp.mk hz2
  obtain ⟨a, cap, rfl, hc1, hc2, -⟩ := hv
  obtain ⟨a3, cap3, rfl, hc3, hc4, -⟩ := hv2
  clear hz hc2 hz2 hc4
  go_enter Tryd.func66, Tryd.ntmps66
  go_wp2_with fail
  go_loopw [5, 6] (fun vs i wr => ∃ k : Nat, k ≤ l.length ∧ i = .int .i64 k ∧ wr.ownsRow w.heap.size 59 2 vs (hWo (l.take k) ns).length (fvH (hWo (l.take k) ns)) ∧ Below w.heap.size w wr) (fun _ i _ => l.length - (intOf i).toNat)
  case atStart => exact ⟨0, by omega, rfl, World.ownsRow_lit (base := w.heap.size) (e := 59) (size := 2) w #[] 0 (Nat.le_refl _) (by unfold maxLen; omega) rfl, (Below.refl _ _).alloc (Nat.le_refl _) _⟩
  case round =>
    obtain ⟨k, hk, rfl, hown, hb⟩ := hrel
    obtain ⟨a2, cp, rfl⟩ := own_lenH hown
    have HB := Kp.mk hb
    have HO := Kp.mk hown
    have hsz := hb.size
    have hle := hWo_len (l.take k) ns
    rw [List.length_take] at hle
    clear hown hb
    by_cases hlt : k < l.length
    · obtain ⟨g, o, rfl, hgl, d0⟩ := rdf_cells HV.out (by omega)
      obtain ⟨c1, c2⟩ := d0 k hlt
      obtain ⟨m1, m2⟩ := HZ.out l[k] (List.getElem_mem hlt)
      have q0 : (0 : Int) ≤ (k : Int) := by omega
      have q1 : (k : Int) < (l.length : Int) := by omega
      have HT := Kp.mk (hWo_take (ns := ns) hlt)
      clear d0
      generalize l[k] = p at *
      obtain ⟨x, y⟩ := p
      simp only at c1 c2 m1 m2
      have HC1 := Kp.mk c1
      have HC2 := Kp.mk c2
      clear c1 c2
      obtain ⟨wo, hwo⟩ : ∃ wo, wo = wr := ⟨_, rfl⟩
      subst hwo
      go_wp2_with fail
      go_loopw [7, 8] (fun is i wr => ∃ j : Nat, j ≤ ns.length ∧ i = .int .i64 j ∧ is = .bool (hHas x (ns.take j)) ∧ Below wo.heap.size wo wr) (fun _ i _ => ns.length - (intOf i).toNat)
      case atStart => exact ⟨0, by omega, rfl, rfl, Below.refl _ _⟩
      case round =>
        obtain ⟨j, hj, rfl, rfl, hbi⟩ := hrel
        have HBI := Kp.mk hbi
        have HBW := Kp.mk (HB.out.trans (hbi.mono hsz))
        have hsi := hbi.size
        clear hbi
        by_cases hjl : j < ns.length
        · obtain ⟨g2, o2, rfl, hgl2, d0⟩ := rds_cells HV2.out (by omega)
          have c3 := d0 j hjl
          have m3 := HZ2.out ns[j] (List.getElem_mem hjl)
          have r0 : (0 : Int) ≤ (j : Int) := by omega
          have r1 : (j : Int) < (ns.length : Int) := by omega
          have HTN := Kp.mk (hHas_take (x := x) hjl)
          clear d0
          generalize ns[j] = n at *
          have HC3 := Kp.mk c3
          clear c3
          have p1 : ∀ p : InS (Below wr.heap.size wr), p.w.cell? ⟨g, o + k * 2, none⟩ = some (.string x) := fun p => (p.ok.cell (p := ⟨g, _, none⟩) (by show g < wr.heap.size; omega)).trans ((HBW.out.cell (p := ⟨g, _, none⟩) hgl).trans HC1.out)
          have p3 : ∀ p : InS (Below wr.heap.size wr), p.w.cell? ⟨g2, o2 + j, none⟩ = some (.string n) := fun p => (p.ok.cell (p := ⟨g2, _, none⟩) (by show g2 < wr.heap.size; omega)).trans ((HBW.out.cell (p := ⟨g2, _, none⟩) hgl2).trans HC3.out)
          haveI hne : Nonempty (InS (Below wr.heap.size wr)) := ⟨⟨_, Below.refl _ _⟩⟩
          cases hh : hHas x (ns.take j)
          · cases hf : foldB x n
            · have HT2 := Kp.mk (show hHas x (ns.take (j + 1)) = false by rw [HTN.out, hh, hf]; rfl)
              go_wp2_with fail
              refine region_in _ (by kernel_rfl) (by kernel_rfl) (gdrewN wr 1) ?_
              repeat (go_big_quiet_step ((go_at_call 90; exact call_in fun w h => (is10_any x n _ m1 m3).mono fun _ _ h2 => ⟨h2.1.trans (by rw [hf]), h.trans (h2.2.mono h.size)⟩)))
              refine wpQuiet_nil ?_
              intro _ hw'
              obtain ⟨wq, rfl⟩ := hw'
              go_wp2_with fail
              go_roundw
              case rel => exact ⟨j + 1, by omega, by go_num, by rw [HT2.out], HBI.out.trans (wq.ok.mono hsi)⟩
              case measure => simp [intOf]; omega
            · have HT2 := Kp.mk (show hHas x (ns.take (j + 1)) = true by rw [HTN.out, hh, hf]; rfl)
              go_wp2_with fail
              refine region_in _ (by kernel_rfl) (by kernel_rfl) (gdrewN wr 1) ?_
              repeat (go_big_quiet_step ((go_at_call 90; exact call_in fun w h => (is10_any x n _ m1 m3).mono fun _ _ h2 => ⟨h2.1.trans (by rw [hf]), h.trans (h2.2.mono h.size)⟩)))
              refine wpQuiet_nil ?_
              intro _ hw'
              obtain ⟨wq, rfl⟩ := hw'
              go_wp2_with fail
              go_roundw
              case rel => exact ⟨j + 1, by omega, by go_num, by rw [HT2.out], HBI.out.trans (wq.ok.mono hsi)⟩
              case measure => simp [intOf]; omega
          · have HT2 := Kp.mk (show hHas x (ns.take (j + 1)) = true by rw [HTN.out, hh]; rfl)
            go_wp2_with fail
            refine region_in _ (by kernel_rfl) (by kernel_rfl) (gdrewN wr 1) ?_
            repeat (go_big_quiet_step (fail))
            refine wpQuiet_nil ?_
            intro _ hw'
            obtain ⟨wq, rfl⟩ := hw'
            go_wp2_with fail
            go_roundw
            case rel => exact ⟨j + 1, by omega, by go_num, by rw [HT2.out], HBI.out.trans (wq.ok.mono hsi)⟩
            case measure => simp [intOf]; omega
        · have HK := Kp.mk (show hHas x (ns.take j) = hHas x ns by rw [List.take_of_length_le (by omega)])
          have HO2 := Kp.mk (own_bel HO.out HBI.out)
          have hsz2 := HBW.out.size
          have e1 := (HBW.out.cell (p := ⟨g, _, none⟩) hgl).trans HC1.out
          have e2 := (HBW.out.cell (p := ⟨g, _, none⟩) hgl).trans HC2.out
          cases hf : hHas x ns
          · have hf2 : hHas x (ns.take j) = false := by rw [HK.out, hf]
            have HT2 := Kp.mk (show hWo (l.take (k + 1)) ns = hWo (l.take k) ns ++ [(x, y)] by rw [HT.out]; simp [hf])
            have hlen : ((hWo (l.take k) ns).length + 1) * 32 ≤ 140737488355328 := by omega
            have hmx : (hWo (l.take k) ns).length + 1 ≤ maxLen := by unfold maxLen; omega
            rw [hf2]
            go_wp2_with (at_builtin; refine app_any rfl _ _ _ _ rfl Tryd.underlying22 _ _ _ Tryd.infoFH rfl (by omega) w.heap.size _ _ _ rfl HO2.out #[.string x, .string y] rfl (fun u hu => by simp at hu; rcases hu with rfl | rfl <;> rfl) _ rfl rfl hlen hmx hsz2 ?_; intro g' cap' w' h1 h2 h3; have H1 := Kp.mk h1; have H2 := Kp.mk h2; clear h1 h2 h3)
            go_roundw
            case rel =>
              refine ⟨k + 1, by omega, by go_num, ?_, HBW.out.trans ((grown_bel HO2.out hsz2 H2.out))⟩
              rw [HT2.out, List.length_append, fvH_snoc]
              exact H1.out
            case measure => simp [intOf]; omega
          · have hf2 : hHas x (ns.take j) = true := by rw [HK.out, hf]
            have HT2 := Kp.mk (show hWo (l.take (k + 1)) ns = hWo (l.take k) ns by rw [HT.out]; simp [hf])
            rw [hf2]
            go_wp2_with fail
            go_roundw
            case rel => exact ⟨k + 1, by omega, by go_num, by rw [HT2.out]; exact HO2.out, HBW.out⟩
            case measure => simp [intOf]; omega
    · have HK := Kp.mk (show l.take k = l from List.take_of_length_le (by omega))
      go_wp2_with fail
      go_ret
      refine ⟨_, rfl, ?_, HB.out⟩
      have h9 := HO.out
      rw [HK.out] at h9 ⊢
      exact h9
end Go.Proofs.YtkfpioadimkogaaDoor
