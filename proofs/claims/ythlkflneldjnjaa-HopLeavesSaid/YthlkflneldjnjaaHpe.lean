/- Fields of one connection (layer 29): the law HopLeaves. -/
import Derived.Test.YthlkflneldjnjaaHpd
import Derived.Deep.QuietTactic
namespace Go.Proofs.Ythlkflneldjnjaa
open Go.RowKit
set_option linter.unusedVariables false
set_option linter.unusedSimpArgs false

theorem hopS_sm {l : List Fld} (h : ∀ p ∈ l, FldSm p) : ∀ p ∈ hopS l, FldSm p := fun p hp => h p (hWo_mem hp).1
theorem hopS_few {l : List Fld} (h : FewF l) : FewF (hopS l) := ⟨Nat.le_trans (hWo_len _ _) h.len, fun p hp => h.val p (hWo_mem hp).1⟩
set_option maxRecDepth 100000 in
set_option maxHeartbeats 4000000 in
theorem hleaves_walk (vl : Value) (l : List Fld) (w : World) (h1 : RdF w vl l) (z1 : ∀ p ∈ l, FldOk p) :
    Calls Try.prog 9 #[vl] w fun e w' => e = .returned (.bool true) ∧ Below w.heap.size w w' := by
  have H1 := Kp.mk h1
  have f1 := few10_any vl l w h1 z1
  cases hfl : hFew l
  · rw [hfl] at f1
    clear h1 z1
    go_enter Try.func9, Try.ntmps9
    go_wp2_with fail
    refine f1.mono ?_
    rintro e w1 ⟨rfl, hb1⟩
    have HB1 := Kp.mk hb1
    clear hb1
    go_wp2_with fail
    refine (lives29_any _).mono ?_
    rintro e w9 ⟨rfl, hb9⟩
    have HB9 := Kp.mk (HB1.out.trans (hb9.mono HB1.out.size))
    clear hb9
    go_wp2_with fail
    go_ret
    exact ⟨rfl, HB9.out⟩
  · rw [hfl] at f1
    have HF := Kp.mk (fewF_of hfl)
    have HFS := Kp.mk (hopS_few HF.out)
    have HS := Kp.mk HF.out.sm
    have HSS := Kp.mk (hopS_sm HF.out.sm)
    have hvz : (conV l).size ≤ 50100 := HF.out.comb nmCon
    have hwl := conW_len (conV l)
    have hsl : (hopS l).length ≤ l.length := hWo_len _ _
    have hl5 := HF.out.len
    have HTW := Kp.mk (hop_twice l)
    have HHC := Kp.mk (host_count l)
    have HSD := Kp.mk (show hopS l = hWo l (hopN (conV l)) from rfl)
    have HMI := Kp.mk (fun x (h : hHas x (hopN (conV l)) = true) => miss_all (l := l) h)
    have HNA := Kp.mk (fun x (h : hHas x (hopN (conV l)) = false) hi => hop_named (x := x) h hi)
    have HTE := Kp.mk (fun x (h : hHas x (hopN (conV l)) = false) => hop_te (x := x) h)
    have HFA := Kp.mk (fun p (h : p ∈ hopS l) => (hWo_mem h).2)
    rw [← HSD.out] at HMI
    have HCAT := Kp.mk (fun j (h : j < l.length) hf => cntH_at (l := l) (N := hopN (conV l)) (j := j) h hf)
    have HCY := Kp.mk (fun j (h : j < l.length) hf => cntH_yes (l := l) (N := hopN (conV l)) (j := j) h hf)
    have HCN := Kp.mk (fun j (h : j < l.length) hf => cntH_no (l := l) (N := hopN (conV l)) (j := j) h hf)
    have HCL := Kp.mk (fun j => cntH_le l (hopN (conV l)) j)
    have HCA := Kp.mk (cntH_all (l := l) (N := hopN (conV l)) (j := l.length) (Nat.le_refl _))
    rw [← HSD.out] at HCAT HCL HCA
    clear z1 h1
    obtain ⟨a0, cp0, hv1, hcc, hcm, -⟩ := H1.out
    subst hv1
    go_enter Try.func9, Try.ntmps9
    go_wp2_with fail
    refine f1.mono ?_
    rintro e w1 ⟨rfl, hb1⟩
    have HB1 := Kp.mk hb1
    clear hb1 f1
    go_wp2_with fail
    refine (strip_any _ l _ (H1.out.below HB1.out) HF.out).mono ?_
    rintro e w2 ⟨u, rfl, ho, hb2⟩
    have HB2 := Kp.mk (HB1.out.trans (hb2.mono HB1.out.size))
    have RS := Kp.mk (rdf_own ho)
    have RL := Kp.mk (H1.out.below HB2.out)
    obtain ⟨a, c, rfl⟩ := own_lenH ho
    clear ho hb2 HSD
    generalize hopN (conV l) = N at *
    generalize hopS l = s at *
    go_wp2_with fail
    go_loopw [4, 18] (fun kv i wr => ∃ j : Nat, j ≤ l.length ∧ i = .int .i64 j ∧ kv = .int .i64 (cntH l N j) ∧ Below w2.heap.size w2 wr) (fun _ i _ => l.length - (intOf i).toNat)
    case atStart => exact ⟨0, by omega, rfl, rfl, Below.refl _ _⟩
    case round =>
      obtain ⟨j, hj, rfl, rfl, hb⟩ := hrel
      have HB := Kp.mk hb
      have HBW := Kp.mk (HB2.out.trans (hb.mono HB2.out.size))
      have hsz := hb.size
      have hcl := HCL.out j
      clear hb
      by_cases hlt : j < l.length
      · obtain ⟨g, o, he, hgl, d0⟩ := rdf_cells (RL.out.below HB.out) (by omega)
        obtain ⟨c1, c2⟩ := d0 j hlt
        obtain ⟨m1, m2⟩ := HS.out l[j] (List.getElem_mem hlt)
        have q0 : (0 : Int) ≤ (j : Int) := by omega
        have q1 : (j : Int) < (l.length : Int) := by omega
        have HY := Kp.mk (HCY.out j hlt)
        have HN := Kp.mk (HCN.out j hlt)
        have HA := Kp.mk (HCAT.out j hlt)
        have HM := Kp.mk (HMI.out l[j].1)
        have HF1 := HFA
        subst he
        clear d0
        generalize l[j] = p at *
        obtain ⟨x, y⟩ := p
        dsimp only at c1 c2 m1 m2 HY HN HA HM
        have HBA := Kp.mk (show Below wr.heap.size wr (wr.alloc (.cells #[.string x, .string y] 42)) from (Below.refl _ _).alloc (Nat.le_refl _) _)
        have HKN := Kp.mk (heap_alloc_new wr (.cells #[.string x, .string y] 42))
        have HB3 := Kp.mk (HB.out.trans (HBA.out.mono hsz))
        have b0 := blk_cell (i := 0) HKN.out rfl
        have b1 := blk_cell (i := 1) HKN.out rfl
        generalize hcn : cntH l N j = k at *
        have r0 : (0 : Int) ≤ (k : Int) := by omega
        cases hf : hHas x N
        · obtain ⟨hk, hek⟩ := HA.out hf
          have HY2 := Kp.mk (HY.out hf)
          obtain ⟨g2, o2, he2, hgl2, d2⟩ := rdf_cells (RS.out.below HB3.out) (by omega)
          obtain ⟨e1, e2⟩ := d2 k hk
          rw [hek] at e1 e2
          dsimp only at e1 e2
          subst he2
          have r1 : (k : Int) < (s.length : Int) := by omega
          clear d2 hek
          go_wp2_with fail
          all_goals (try go_quiet (fail))
          all_goals go_wp2_with fail
          go_roundw
          case rel => exact ⟨j + 1, by omega, by go_num, by rw [HY2.out]; go_num, HB3.out.trans ((gdrewN _ _).mono HB3.out.size)⟩
          case measure => simp [intOf]; omega
        · have HN2 := Kp.mk (HN.out hf)
          have HM2 := Kp.mk (HM.out hf)
          have n1 : ((0 : Nat) : Int) = 0 := rfl
          by_cases hk : k < s.length
          · obtain ⟨g2, o2, he2, hgl2, d2⟩ := rdf_cells (RS.out.below HB3.out) (by omega)
            obtain ⟨e1, e2⟩ := d2 k hk
            have hfs := HFA.out s[k] (List.getElem_mem hk)
            subst he2
            have r1 : (k : Int) < (s.length : Int) := by omega
            clear d2
            generalize s[k] = q at *
            obtain ⟨x2, y2⟩ := q
            dsimp only at e1 e2 hfs
            have hne : x ≠ x2 := fun e => by rw [← e, hf] at hfs; cases hfs
            have t2 := ba_tlb hne
            have t3 : ¬ (x.toList = x2.toList) := fun e => hne (ba_tl.1 e)
            have t4 : (x2.toList == x.toList) = false := ba_tlb (fun e => hne e.symm)
            clear hfs
            go_wp2_with fail
            all_goals (try go_quiet (fail))
            all_goals go_wp2_with fail
            have HBQ := Kp.mk (show Below w2.heap.size w2 ((wr.alloc (.cells #[.string x, .string y] 42)).drewN nq) from HB3.out.trans ((gdrewN _ _).mono HB3.out.size))
            refine (hcount_any _ s x _ (RS.out.below HBQ.out) HSS.out (by omega) m1).mono ?_
            rintro e w5 ⟨rfl, hb5⟩
            rw [HM2.out]
            have HB5 := Kp.mk (HBQ.out.trans (hb5.mono HBQ.out.size))
            clear hb5
            go_wp2_with fail
            go_roundw
            case rel => exact ⟨j + 1, by omega, by go_num, by rw [HN2.out], HB5.out⟩
            case measure => simp [intOf]; omega
          · have r1 : ¬ (k : Int) < (s.length : Int) := by omega
            go_wp2_with fail
            all_goals (try go_quiet (fail))
            all_goals go_wp2_with fail
            have HBQ := Kp.mk (show Below w2.heap.size w2 ((wr.alloc (.cells #[.string x, .string y] 42)).drewN nq) from HB3.out.trans ((gdrewN _ _).mono HB3.out.size))
            refine (hcount_any _ s x _ (RS.out.below HBQ.out) HSS.out (by omega) m1).mono ?_
            rintro e w5 ⟨rfl, hb5⟩
            rw [HM2.out]
            have HB5 := Kp.mk (HBQ.out.trans (hb5.mono HBQ.out.size))
            clear hb5
            go_wp2_with fail
            go_roundw
            case rel => exact ⟨j + 1, by omega, by go_num, by rw [HN2.out], HB5.out⟩
            case measure => simp [intOf]; omega
      · obtain rfl : j = l.length := by omega
        have HKE := Kp.mk HCA.out
        have q1 : ¬ ((l.length : Nat) : Int) < (l.length : Int) := by omega
        have q2 : ((s.length : Int) != (s.length : Int)) = false := by simp
        rw [HKE.out]
        go_wp2_with fail
        refine (strip_any _ s _ (RS.out.below HB.out) HFS.out).mono ?_
        rw [HTW.out]
        rintro e w3 ⟨u, rfl, ho3, hb3⟩
        have HB3 := Kp.mk (HBW.out.trans (hb3.mono HBW.out.size))
        have RS3 := Kp.mk ((RS.out.below HB.out).below hb3)
        have RU := Kp.mk (rdf_own ho3)
        obtain ⟨a3, c3, rfl⟩ := own_lenH ho3
        clear ho3 hb3
        go_wp2_with fail
        refine (rfsame_any _ _ s s _ RU.out RS3.out (by omega) (by omega)).mono ?_
        rw [sameL_h]
        rintro e w4 ⟨rfl, hb4⟩
        have HB4 := Kp.mk (HB3.out.trans (hb4.mono HB3.out.size))
        have RS4 := Kp.mk (RS3.out.below hb4)
        clear hb4 RU RS3
        go_wp2_with fail
        go_loopw [55] (fun i wr => ∃ k : Nat, k ≤ s.length ∧ i = .int .i64 k ∧ Below w4.heap.size w4 wr) (fun i _ => s.length - (intOf i).toNat)
        case atStart => exact ⟨0, by omega, rfl, Below.refl _ _⟩
        case round =>
          obtain ⟨k, hk, rfl, hb⟩ := hrel
          have HC := Kp.mk hb
          have HCW := Kp.mk (HB4.out.trans (hb.mono HB4.out.size))
          have hcz := hb.size
          clear hb
          by_cases hlt2 : k < s.length
          · obtain ⟨g, o, he, hgl, d0⟩ := rdf_cells (RS4.out.below HC.out) (by omega)
            obtain ⟨c1, c2⟩ := d0 k hlt2
            obtain ⟨m1, m2⟩ := HSS.out s[k] (List.getElem_mem hlt2)
            have hfs := HFA.out s[k] (List.getElem_mem hlt2)
            have r0 : (0 : Int) ≤ (k : Int) := by omega
            have r1 : (k : Int) < (s.length : Int) := by omega
            subst he
            clear d0
            generalize s[k] = p at *
            obtain ⟨x, y⟩ := p
            dsimp only at c1 c2 m1 m2 hfs
            have HNM := Kp.mk (HNA.out x hfs)
            have HTT := Kp.mk (HTE.out x hfs)
            have HBA := Kp.mk (show Below wr.heap.size wr (wr.alloc (.cells #[.string x, .string y] 42)) from (Below.refl _ _).alloc (Nat.le_refl _) _)
            have HKN := Kp.mk (heap_alloc_new wr (.cells #[.string x, .string y] 42))
            have HC2 := Kp.mk (HC.out.trans (HBA.out.mono hcz))
            have HMD := Kp.mk (show hMay x = (foldB x ⟨#[72, 111, 115, 116]⟩ || (foldB x ⟨#[86, 105, 97]⟩ || foldB x ⟨#[67, 111, 110, 116, 101, 110, 116, 45, 76, 101, 110, 103, 116, 104]⟩)) from rfl)
            clear hfs
            go_upto_region 18 with fail
            go_cut [9] (fun v9 wx => v9 = .bool (hMay x) ∧ wx.heap[wr.heap.size]? = some (.cells #[.string x, .string y] 42 (0, 0)) ∧ Below w4.heap.size w4 wx)
            case first =>
              have b0 := blk_cell (i := 0) HKN.out rfl
              go_wp2_with fail
              refine (oct_fold_any x ⟨#[72, 111, 115, 116]⟩ _ (by omega) (by decide)).mono ?_
              rintro e u1 ⟨rfl, hb1⟩
              have HK1 := Kp.mk ((hb1.block _ (blk_lt HKN.out)).trans HKN.out)
              have HD1 := Kp.mk (HC2.out.trans (hb1.mono HC2.out.size))
              have b1 := blk_cell (i := 0) HK1.out rfl
              clear hb1 b0
              cases h1 : foldB x ⟨#[72, 111, 115, 116]⟩
              · go_wp2_with fail
                refine (oct_fold_any x ⟨#[86, 105, 97]⟩ _ (by omega) (by decide)).mono ?_
                rintro e u2 ⟨rfl, hb2⟩
                have HK2 := Kp.mk ((hb2.block _ (blk_lt HK1.out)).trans HK1.out)
                have HD2 := Kp.mk (HD1.out.trans (hb2.mono HD1.out.size))
                have b2 := blk_cell (i := 0) HK2.out rfl
                clear hb2 b1
                cases h2 : foldB x ⟨#[86, 105, 97]⟩
                · go_wp2_with fail
                  refine (oct_fold_any x ⟨#[67, 111, 110, 116, 101, 110, 116, 45, 76, 101, 110, 103, 116, 104]⟩ _ (by omega) (by decide)).mono ?_
                  rintro e u3 ⟨rfl, hb3⟩
                  have HK3 := Kp.mk ((hb3.block _ (blk_lt HK2.out)).trans HK2.out)
                  have HD3 := Kp.mk (HD2.out.trans (hb3.mono HD2.out.size))
                  have HX := Kp.mk (show hMay x = foldB x ⟨#[67, 111, 110, 116, 101, 110, 116, 45, 76, 101, 110, 103, 116, 104]⟩ by rw [HMD.out, h1, h2]; rfl)
                  clear hb3 b2
                  generalize foldB x ⟨#[67, 111, 110, 116, 101, 110, 116, 45, 76, 101, 110, 103, 116, 104]⟩ = fc at *
                  go_wp2_with fail
                  go_meet
                  exact ⟨by rw [HX.out], HK3.out, HD3.out⟩
                · have HX := Kp.mk (show hMay x = true by rw [HMD.out, h1, h2]; rfl)
                  go_wp2_with fail
                  go_meet
                  exact ⟨by rw [HX.out], HK2.out, HD2.out⟩
              · have HX := Kp.mk (show hMay x = true by rw [HMD.out, h1]; rfl)
                go_wp2_with fail
                go_meet
                exact ⟨by rw [HX.out], HK1.out, HD1.out⟩
            case rest =>
              obtain ⟨rfl, hkx, hdx⟩ := hcut
              have HKX := Kp.mk hkx
              have HDX := Kp.mk hdx
              have HDW := Kp.mk (HB4.out.trans (hdx.mono HB4.out.size))
              have b0 := blk_cell (i := 0) hkx rfl
              clear hkx hdx HKN HBA HC2
              go_wp2_with fail
              refine (chas_any _ l x _ (H1.out.below HDW.out) HF.out (by omega)).mono ?_
              rintro e u1 ⟨rfl, hb1⟩
              have HK1 := Kp.mk ((hb1.block _ (blk_lt HKX.out)).trans HKX.out)
              have HD1 := Kp.mk (HDX.out.trans (hb1.mono HDX.out.size))
              have b1 := blk_cell (i := 0) HK1.out rfl
              clear hb1 b0
              cases hi : inW (lowB x) (conW (conV l))
              all_goals
                have HMY := Kp.mk (fun h => HNM.out h)
                (try (have hmy := HMY.out hi; rw [hmy]))
                generalize hMay x = my at *
                go_wp2_with fail
                refine (oct_fold_any x ⟨#[116, 101]⟩ _ (by omega) (by decide)).mono ?_
                rw [HTT.out.1]
                rintro e u2 ⟨rfl, hb2⟩
                have HK2 := Kp.mk ((hb2.block _ (blk_lt HK1.out)).trans HK1.out)
                have HD2 := Kp.mk (HD1.out.trans (hb2.mono HD1.out.size))
                have b2 := blk_cell (i := 0) HK2.out rfl
                clear hb2 b1
                go_wp2_with fail
                refine (oct_fold_any x ⟨#[117, 112, 103, 114, 97, 100, 101]⟩ _ (by omega) (by decide)).mono ?_
                rw [HTT.out.2]
                rintro e u3 ⟨rfl, hb3⟩
                have HD3 := Kp.mk (HD2.out.trans (hb3.mono HD2.out.size))
                clear hb3 b2
                go_wp2_with fail
                go_roundw
                case rel => exact ⟨k + 1, by omega, by go_num, HD3.out⟩
                case measure => simp [intOf]; omega
          · have r1 : ¬ (k : Int) < (s.length : Int) := by omega
            go_wp2_with fail
            refine (hcount_any _ s bHost _ (RS4.out.below HC.out) HSS.out (by omega) (by decide)).mono ?_
            rintro e u1 ⟨rfl, hb1⟩
            have HD1 := Kp.mk (HCW.out.trans (hb1.mono HCW.out.size))
            clear hb1
            go_wp2_with fail
            refine (hcount_any _ l bHost _ (H1.out.below HD1.out) HS.out (by omega) (by decide)).mono ?_
            rintro e u2 ⟨rfl, hb2⟩
            rw [← HHC.out]
            have HD2 := Kp.mk (HD1.out.trans (hb2.mono HD1.out.size))
            have r2 : (((hAll s bHost).length : Int) == ((hAll s bHost).length : Int)) = true := by simp
            clear hb2
            go_wp2_with fail
            refine (lives29_any _).mono ?_
            rintro e w9 ⟨rfl, hb9⟩
            have HB9 := Kp.mk (HD2.out.trans (hb9.mono HD2.out.size))
            clear hb9
            go_wp2_with fail
            go_ret
            exact ⟨rfl, HB9.out⟩
theorem hleaves_arg (v0 : Value) (w : World) (h0 : Arg Try.prog w 22 v0) :
    Calls Try.prog 9 #[v0] w fun e w' => e = .returned (.bool true) ∧ Below w.heap.size w w' := by
  obtain ⟨l, hv, hz⟩ := hlist_argH v0 w h0
  exact hleaves_walk v0 l w hv hz
end Go.Proofs.Ythlkflneldjnjaa
