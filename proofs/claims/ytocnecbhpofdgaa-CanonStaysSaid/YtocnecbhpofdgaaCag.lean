/- Heads in one form (layer 50): canon.Fields (bin/mkcag.py). -/
import Derived.Test.YtocnecbhpofdgaaCaf
import Derived.Deep.RegionHeld3
namespace Go.Proofs.Ytocnecbhpofdgaa
open Go.RowKit
set_option linter.unusedVariables false
set_option linter.unusedSimpArgs false

theorem cells2 {w : World} {b : Nat} {x y : Value} {t : TypeId} (h : w.heap[b]? = some (.cells #[x, y] t (0, 0))) : w.cell? ⟨b, 0, none⟩ = some x ∧ w.cell? ⟨b, 1, none⟩ = some y := ⟨blk_cell (i := 0) h rfl, blk_cell (i := 1) h rfl⟩
set_option maxRecDepth 100000 in
set_option maxHeartbeats 2000000 in
theorem cfields_any (v : Value) (l : List Fld) (w : World) (hv : RdF w v l) (hz : ∀ p ∈ l, FldSm p) (hl : l.length ≤ 100) :
    Calls Try.prog 24 #[v] w (RetF (cFld l) w) := by
  have HGA := Kp.mk (gath_any v l w hv hz hl)
  have hok := gAll_ok _ l rfl
  have hml := gAll_mem _ l rfl
  have hgl := gAll_len l
  have HR := Kp.mk (show cFld l = fOut (gAll l) from rfl)
  have HOK := Kp.mk (fun p (hp : p ∈ gAll l) => And.intro (hok p hp).1 (And.intro (fun f (hf : f ∈ p.2) => hz f ((hok p hp).2 f hf)) (show p.2.length ≤ 100 by have := hml p hp; omega)))
  have HGL := Kp.mk (show (gAll l).length ≤ 100 by omega)
  obtain ⟨a0, c0, rfl, _, _, -⟩ := hv
  clear hok hml hgl hz
  go_enter Try.func24, Try.ntmps24
  go_wp2_with fail
  refine HGA.out.mono ?_
  rintro e w1 ⟨gv, vs, rfl, hG, hB⟩
  clear HGA
  generalize gAll l = G at *
  generalize cFld l = R at *
  have HG := Kp.mk hG
  have HB := Kp.mk hB
  obtain ⟨ag, cg, rfl⟩ := own_lenH hG.row
  clear hG hB
  generalize hn : G.length = n at *
  have HN := Kp.mk hn
  have hn100 : n ≤ 100 := HGL.out
  clear hn
  go_wp2_with fail
  go_loopw [3, 13] (fun ov i wr => ∃ k : Nat, k ≤ n ∧ i = .int .i64 k ∧ wr.ownsRow w1.heap.size 64 2 ov (fOut (G.take k)).length (fvH (fOut (G.take k))) ∧ Below w1.heap.size w1 wr) (fun _ i _ => n - (intOf i).toNat)
  case atStart => exact ⟨0, Nat.zero_le _, rfl, World.ownsRow_nil _ _ _ _, Below.refl _ _⟩
  case round =>
    obtain ⟨k, hk, rfl, ho, hb⟩ := hrel
    have HO := Kp.mk ho
    have HBW := Kp.mk hb
    clear ho hb
    by_cases hlt : k < n
    · have hkl : k < G.length := by have := HN.out; omega
      obtain ⟨gg, gcap, gcur, hge, hggb, hgblk, hcur⟩ := gr_blk (HG.out.below HBW.out) (by omega)
      rw [HN.out] at hge
      cases hge
      obtain ⟨vk, hvk⟩ : ∃ vk, vs[k]? = some vk := ⟨_, List.getElem?_eq_getElem (by rw [HG.out.len]; exact hkl)⟩
      have hpk : G[k]? = some G[k] := List.getElem?_eq_getElem hkl
      have cg1 := blk_cell (i := k) hgblk (hcur k _ hvk)
      have hown := HG.out.each k vk hvk _ hpk
      obtain ⟨a5, c5, rfl⟩ := own_lenH hown
      obtain ⟨hL0, hLz, hLl⟩ := HOK.out _ (List.getElem_mem hkl)
      have HEND0 := Kp.mk (fOut_take hkl)
      have HA0 := Kp.mk (show (fOut (G.take k)).length ≤ 10000 from Nat.le_trans (fOut_len (n := 100) fun p hp => (HOK.out p (List.mem_of_mem_take hp)).2.2) (by rw [List.length_take]; have := HGL.out; have := HN.out; omega))
      generalize fOut (G.take k) = acc0 at *
      generalize hLL : (G[k]).2 = L at *
      have hr5 : RdF w1 (.slice a5 L.length c5) L := rdf_own hown
      obtain ⟨b5, o5, rfl, hb5, d5⟩ := rdf_cells hr5 hL0
      have HR5 := Kp.mk hr5
      have D50 := Kp.mk d5
      have hbk5 := HBW.out.block b5 hb5
      obtain ⟨e1, e2⟩ := d5 0 hL0
      have c1 : wr.cell? ⟨b5, o5, none⟩ = some (.string L[0].1) := (World.cell?_of_block hbk5).trans (by simpa using e1)
      have HBK5 := Kp.mk hbk5
      have HB5L := Kp.mk hb5
      have hsg := Kp.mk (fun w => csingle_any L[0].1 w (by have := (hLz _ (List.getElem_mem hL0)).1; omega))
      have HLZ := Kp.mk hLz
      have HLL := Kp.mk hLl
      have HNM := Kp.mk (hLz _ (List.getElem_mem hL0)).1
      have HONE := Kp.mk (show fOne L = if sgB L[0].1 then L else [(L[0].1, hJoin (hAll L L[0].1))] by
        cases L with
        | nil => simp at hL0
        | cons f r => rfl)
      have HW1 := Kp.mk HBW.out.size
      have q1 : (k : Int) < (n : Int) := by omega
      have q0 : (0 : Int) ≤ (k : Int) := by omega
      have ql : (0 : Int) < (L.length : Int) := by omega
      have HL0 := Kp.mk hL0
      clear e1 e2 d5 hown hvk hpk hcur hgblk hggb hLz hLl hbk5 hr5 hb5 hLL
      generalize L[0].1 = nm at *
      cases hs : sgB nm
      · have HO2 := Kp.mk (show fOne L = [(nm, hJoin (hAll L nm))] from HONE.out.trans (if_neg (by rw [hs]; decide)))
        rw [hs] at hsg
        clear HONE hs
        go_wp2_with fail
        refine (hsg.out _).mono ?_
        rintro e w2 ⟨rfl, hb2⟩
        have HBW2 := Kp.mk (HBW.out.trans (hb2.mono HBW.out.size))
        have HOW2 := Kp.mk (own_bel HO.out hb2)
        clear hb2 c1 cg1
        go_wp2_with fail
        refine (hall_any _ L nm w2 (HR5.out.below HBW2.out) HLZ.out (by have := HLL.out; omega) HNM.out).mono ?_
        rintro e w3 ⟨v3, rfl, ho3, hb3⟩
        have HBW3 := Kp.mk (HBW2.out.trans (hb3.mono HBW2.out.size))
        have HOW3 := Kp.mk (own_bel HOW2.out hb3)
        have HR3 := Kp.mk (rds_own ho3)
        obtain ⟨a3, c3, rfl⟩ := own_lenH ho3
        clear hb3 ho3
        have hj1 := hAll_sm nm HLZ.out
        have hj2 := hAll_len L nm
        have HJS := Kp.mk (show (hJoin (hAll L nm)).size ≤ maxLen from Nat.le_trans (hJoin_size hj1) (by unfold maxLen; have := HLL.out; have : (hAll L nm).length * 100002 ≤ 100 * 100002 := Nat.mul_le_mul_right _ (by omega); omega))
        have HJN := Kp.mk (fun w h => hjoin_any (.slice a3 (hAll L nm).length c3) (hAll L nm) w h hj1 (by have := HLL.out; omega))
        clear hj1 hj2
        generalize hAll L nm = AL at *
        generalize hJoin AL = jn at *
        go_wp2_with fail
        refine (HJN.out _ HR3.out).mono ?_
        rintro e w4 ⟨rfl, hb4⟩
        have HBW4 := Kp.mk (HBW3.out.trans (hb4.mono HBW3.out.size))
        have HOW4 := Kp.mk (own_bel HOW3.out hb4)
        clear hb4
        have hnb := heap_alloc_new w4 (.cells #[.string nm, .string jn] 64)
        have HBW5 := Kp.mk (HBW4.out.trans (((Below.refl w4.heap.size w4).alloc (Nat.le_refl _) (.cells #[.string nm, .string jn] 64)).mono HBW4.out.size))
        have HOW5 := Kp.mk (own_bel HOW4.out ((Below.refl w4.heap.size w4).alloc (Nat.le_refl _) (.cells #[.string nm, .string jn] 64)))
        have HJ0 := Kp.mk (show FJ w1.heap.size w4.heap.size (w4.alloc (.cells #[.string nm, .string jn] 64)) acc0 _ (w4.alloc (.cells #[.string nm, .string jn] 64)) from
          ⟨HOW5.out, Below.refl _ _, rfl, fun e => by have := (HOW4.out.lt _ e).2; omega, blk_lt hnb, HBW5.out.size⟩)
        have D5 := Kp.mk (show ∀ (j : Nat) (h : j < [(nm, jn)].length), (w4.alloc (.cells #[.string nm, .string jn] 64)).cell? ⟨w4.heap.size, j * 2, none⟩ = some (.string [(nm, jn)][j].1) ∧ (w4.alloc (.cells #[.string nm, .string jn] 64)).cell? ⟨w4.heap.size, j * 2 + 1, none⟩ = some (.string [(nm, jn)][j].2) from fun j h => by
          simp at h
          subst h
          exact cells2 hnb)
        have HMSM := Kp.mk (show ∀ f ∈ [(nm, jn)], f.1.size ≤ 1000000 ∧ f.2.size ≤ maxLen from fun f hf => by
          rw [List.mem_singleton] at hf
          subst hf
          exact ⟨by have := HNM.out; show nm.size ≤ _; omega, HJS.out⟩)
        have HEND1 := Kp.mk (show fOut (G.take (k + 1)) = acc0 ++ [(nm, jn)].map nmT by rw [HEND0.out, HO2.out])
        clear hnb HJN HR3
        go_upto_region 9 with fail
        have HW5 := HBW5
        have HML := Kp.mk (show [(nm, jn)].length ≤ 100 by simp)
        have hm1 : [(nm, jn)].length = 1 := rfl
        generalize [(nm, jn)] = M at *
        generalize w4.alloc (.cells #[.string nm, .string jn] 64) = W5 at *
        generalize w4.heap.size = b5 at *
        have HM := Kp.mk hm1
        clear hm1
        have HEND := Kp.mk (show acc0 ++ (M.take 1).map nmT = fOut (G.take (k + 1)) by rw [HEND1.out, List.take_of_length_le (by have := HM.out; omega)])
        go_wp2_with fail
        go_loopw [3, 34] (fun ov i wr => ∃ j : Nat, j ≤ 1 ∧ i = .int .i64 j ∧ FJ w1.heap.size b5 W5 (acc0 ++ (M.take j).map nmT) ov wr) (fun _ i _ => 1 - (intOf i).toNat)
        case atStart => exact ⟨0, Nat.zero_le _, rfl, by simpa using HJ0.out⟩
        case round =>
          obtain ⟨j, hj, rfl, hJ⟩ := hrel
          have HJ := Kp.mk hJ
          clear hJ
          by_cases hjm : j < 1
          · have hjl : j < M.length := by have := HM.out; omega
            obtain ⟨d1, d2⟩ := D5.out j hjl
            have c1 := (World.cell?_of_block HJ.out.k).trans d1
            have c2 := (World.cell?_of_block HJ.out.k).trans d2
            have HMS := Kp.mk (HMSM.out _ (List.getElem_mem hjl))
            have HAL := Kp.mk (show (acc0 ++ (M.take j).map nmT) ++ [nmT M[j]] = acc0 ++ (M.take (j + 1)).map nmT by rw [List.take_succ_eq_append_getElem hjl, List.map_append, List.append_assoc]; rfl)
            have hal : (acc0 ++ (M.take j).map nmT).length ≤ 20000 := by
              rw [List.length_append, List.length_map, List.length_take]
              have := HM.out
              have := HML.out
              have := HA0.out
              omega
            obtain ⟨ao, co, rfl⟩ := own_lenH HJ.out.o
            have r1 : (j : Int) < (1 : Int) := by omega
            have r0 : (0 : Int) ≤ (j : Int) := by omega
            clear d1 d2
            generalize M[j] = f at *
            obtain ⟨x, y⟩ := f
            dsimp only at c1 c2 HMS
            generalize hacc : acc0 ++ (M.take j).map nmT = acc at *
            have HACC := Kp.mk hacc.symm
            have HAL2 := Kp.mk HAL.out
            clear hacc
            have HNA := Kp.mk (fun w => cname_any x w HMS.out.1)
            have HTR := Kp.mk (fun w => oct_trim_any y w HMS.out.2)
            have HJB := Kp.mk (HJ.out.below ((Below.refl wr.heap.size wr).alloc (Nat.le_refl _) (.cells #[.string x, .string y] 64)))
            have HBX := Kp.mk (heap_alloc_new wr (.cells #[.string x, .string y] 64))
            have HBXd := Kp.mk (show ((wr.alloc (.cells #[.string x, .string y] 64)).drew).heap[wr.heap.size]? = some (.cells #[.string x, .string y] 64 (0, 0)) from HBX.out)
            have HNB := Kp.mk (show (Value.slice ao acc.length co).ownBlock ≠ some wr.heap.size from fun e => by have := (HJ.out.o.lt _ e).2; omega)
            have lenC : (acc.length + 1) * 32 ≤ 140737488355328 := by omega
            have lenD : acc.length + 1 ≤ maxLen := by unfold maxLen; omega
            clear hjl
            go_upto_region 12 with fail
            refine wp_region_held_drew (S := fun w' => w'.cell? ⟨wr.heap.size, 0, none⟩ = some (.string x) ∧ w'.cell? ⟨wr.heap.size, 1, none⟩ = some (.string y)) (by kernel_rfl) (cells2 HBXd.out) (fun hHeld => ?_)
            refine wpAnyH_take (i := 0) (oi := ⟨some 38, .move (.tmp 3), _, _, _, none⟩) (v := ?_) rfl (by kernel_rfl) (by kernel_rfl) (by kernel_rfl) (fun _ _ _ h => h) (Or.inl ⟨by rfl, ?_⟩) (by assumption) ?_
            rotate_left
            · intro w hSw
              try dsimp only at hSw
              go_simp
              try with_reducible rfl
            try simp only [Act.put, List.setIfInBounds_toArray, List.set_cons_zero, List.set_cons_succ]
            refine wpAnyH_take (i := 1) (oi := ⟨some 39, .fieldAddr 64 (.tmp 9) 0, _, _, _, none⟩) (v := ?_) rfl (by kernel_rfl) (by kernel_rfl) (by kernel_rfl) (fun _ _ _ h => h) (Or.inl ⟨by rfl, ?_⟩) (by assumption) ?_
            rotate_left
            · intro w hSw
              try dsimp only at hSw
              go_simp
              try with_reducible rfl
            try simp only [Act.put, List.setIfInBounds_toArray, List.set_cons_zero, List.set_cons_succ]
            refine wpAnyH_take (i := 2) (oi := ⟨some 40, .load 9 (.tmp 39), _, _, _, none⟩) (v := ?_) rfl (by kernel_rfl) (by kernel_rfl) (by kernel_rfl) (fun _ _ _ h => h) (Or.inl ⟨by rfl, ?_⟩) (by assumption) ?_
            rotate_left
            · intro w hSw
              try dsimp only at hSw
              go_simp
              try with_reducible rfl
            try simp only [Act.put, List.setIfInBounds_toArray, List.set_cons_zero, List.set_cons_succ]
            refine wpAnyH_take (i := 4) (oi := ⟨some 42, .fieldAddr 64 (.tmp 9) 1, _, _, _, none⟩) (v := ?_) rfl (by kernel_rfl) (by kernel_rfl) (by kernel_rfl) (fun _ _ _ h => h) (Or.inl ⟨by rfl, ?_⟩) (by assumption) ?_
            rotate_left
            · intro w hSw
              try dsimp only at hSw
              go_simp
              try with_reducible rfl
            try simp only [Act.put, List.setIfInBounds_toArray, List.set_cons_zero, List.set_cons_succ]
            refine wpAnyH_take (i := 5) (oi := ⟨some 43, .load 9 (.tmp 42), _, _, _, none⟩) (v := ?_) rfl (by kernel_rfl) (by kernel_rfl) (by kernel_rfl) (fun _ _ _ h => h) (Or.inl ⟨by rfl, ?_⟩) (by assumption) ?_
            rotate_left
            · intro w hSw
              try dsimp only at hSw
              go_simp
              try with_reducible rfl
            try simp only [Act.put, List.setIfInBounds_toArray, List.set_cons_zero, List.set_cons_succ]
            refine wpAnyH_ready (rs := [3]) (by kernel_rfl) (by simp) ?_
            refine AllReadyH.cons (o := ⟨some 41, _, _, _, _, none⟩) rfl (fun K hK => ?_) AllReadyH.nil
            go_simp
            (go_at_call 42; refine (HNA.out _).mono ?_; rintro e wq ⟨rfl, hb⟩)
            have HB5 := Kp.mk ((show Below (wr.alloc (.cells #[.string x, .string y] 64)).heap.size (wr.alloc (.cells #[.string x, .string y] 64)) (wr.alloc (.cells #[.string x, .string y] 64)).drew from ⟨rfl, rfl, rfl, Nat.le_refl _, fun _ _ => rfl⟩).trans hb)
            have HX5 := Kp.mk ((HB5.out.block _ (blk_lt HBX.out)).trans HBX.out)
            clear hb
            try go_wp2_with fail
            refine hK.out _ _ (cells2 HX5.out) (fun hHeld2 => ?_)
            clear hK K
            try simp only [Act.put, List.setIfInBounds_toArray, List.set_cons_zero, List.set_cons_succ]
            refine wpAnyH_ready (rs := [6]) (by kernel_rfl) (by simp) ?_
            refine AllReadyH.cons (o := ⟨some 44, _, _, _, _, none⟩) rfl (fun K hK => ?_) AllReadyH.nil
            go_simp
            (go_at_call 46; refine (HTR.out _).mono ?_; rintro e wq ⟨rfl, hb⟩)
            have HB6 := Kp.mk (HB5.out.trans (hb.mono HB5.out.size))
            have HX2 := Kp.mk ((HB6.out.block _ (blk_lt HBX.out)).trans HBX.out)
            have HJ2 := Kp.mk (HJB.out.below HB6.out)
            have HBZ := Kp.mk (Nat.le_trans HJ2.out.b HJ2.out.bl.size)
            generalize wq = WQ at *
            clear hb
            try go_wp2_with fail
            refine hK.out _ _ (cells2 HX2.out) (fun hHeld2 => ?_)
            clear hK K
            try simp only [Act.put, List.setIfInBounds_toArray, List.set_cons_zero, List.set_cons_succ]
            refine wpAnyH_take (i := 7) (oi := ⟨some 45, .build 64 #[(0, .tmp 41), (1, .tmp 44)], _, _, _, none⟩) (v := ?_) rfl (by kernel_rfl) (by kernel_rfl) (by kernel_rfl) (fun _ _ _ h => h) (Or.inl ⟨by rfl, ?_⟩) (by assumption) ?_
            rotate_left
            · intro w hSw
              try dsimp only at hSw
              go_simp
              try with_reducible rfl
            try simp only [Act.put, List.setIfInBounds_toArray, List.set_cons_zero, List.set_cons_succ]
            refine wpAnyH_ready (rs := [8]) (by kernel_rfl) (by simp) ?_
            refine AllReadyH.cons (o := ⟨some 46, _, _, _, _, none⟩) rfl (fun K hK => ?_) AllReadyH.nil
            go_simp
            refine hK.out _ _ (cells2 (blk_alloc HX2.out)) (fun hHeld2 => ?_)
            clear hK K
            try simp only [Act.put, List.setIfInBounds_toArray, List.set_cons_zero, List.set_cons_succ]
            refine wpAnyH_ready (rs := [9]) (by kernel_rfl) (by simp) ?_
            refine AllReadyH.cons (o := ⟨some 47, _, _, _, _, none⟩) rfl (fun K hK => ?_) AllReadyH.nil
            apply oq_app_any (wr := WQ) (e := 64) (cs := #[.string (nameB x), .string (trimB y)]) (B := w1.heap.size) (v := .slice ao acc.length co) (hown := HJ2.out.o) (H := WQ.heap.size) (hH := rfl) (hlen := lenC) (hm := lenD) (hB := HBZ.out) (hi := Try.infoFH) (ht := Try.underlying22)
            all_goals (try (first | rfl | decide | (intro u hu; simp at hu; rcases hu with rfl | rfl <;> rfl)))
            intro g' cap' w6 h1 h2 h3
            have HJ3 := Kp.mk (HJ2.out.next (f := nmT (x, y)) h1 h2 h3)
            have HS6 := Kp.mk (HJ2.out.box HX2.out HNB.out h2)
            clear h1 h2 h3
            refine hK.out _ _ (HS6.out) (fun hHeld2 => ?_)
            clear hK K
            try simp only [Act.put, List.setIfInBounds_toArray, List.set_cons_zero, List.set_cons_succ]
            refine wpAnyH_take (i := 10) (oi := ⟨some 3, .assign (.tmp 47), _, _, _, none⟩) (v := ?_) rfl (by kernel_rfl) (by kernel_rfl) (by kernel_rfl) (fun _ _ _ h => h) (Or.inl ⟨by rfl, ?_⟩) (by assumption) ?_
            rotate_left
            · intro w hSw
              try dsimp only at hSw
              go_simp
              try with_reducible rfl
            try simp only [Act.put, List.setIfInBounds_toArray, List.set_cons_zero, List.set_cons_succ]
            refine wpAnyH_done (by kernel_rfl) ?_ _
            go_wp2_with fail
            go_roundw
            case rel => exact ⟨j + 1, by omega, by go_num, (by have h9 := HJ3.out; rw [HAL.out] at h9; exact h9)⟩
            case measure => simp [intOf] <;> omega
          · have hjm2 : j = 1 := by omega
            subst hjm2
            have HFJ := Kp.mk HJ.out
            clear HJ
            go_wp2_with fail
            go_roundw
            case rel => exact ⟨k + 1, by omega, by go_num, (by have h9 := HFJ.out.o; rw [HEND.out] at h9; exact h9), HW5.out.trans (HFJ.out.bl)⟩
            case measure => simp [intOf] <;> omega
      · have HO2 := Kp.mk (show fOne L = L from HONE.out.trans (if_pos hs))
        rw [hs] at hsg
        clear HONE hs
        go_wp2_with fail
        refine (hsg.out _).mono ?_
        rintro e w2 ⟨rfl, hb2⟩
        have HW5 := Kp.mk (HBW.out.trans (hb2.mono HBW.out.size))
        have HOW5 := Kp.mk (own_bel HO.out hb2)
        have hbk := (hb2.block b5 (Nat.lt_of_lt_of_le HB5L.out HBW.out.size)).trans HBK5.out
        have HJ0 := Kp.mk (show FJ w1.heap.size b5 w2 acc0 _ w2 from
          ⟨HOW5.out, Below.refl _ _, rfl, fun e => by have := (HO.out.lt _ e).1; have := HB5L.out; omega, Nat.lt_of_lt_of_le HB5L.out HW5.out.size, HW5.out.size⟩)
        have D5 := Kp.mk (show ∀ (j : Nat) (h : j < L.length), w2.cell? ⟨b5, o5 + j * 2, none⟩ = some (.string L[j].1) ∧ w2.cell? ⟨b5, o5 + j * 2 + 1, none⟩ = some (.string L[j].2) from fun j h =>
          ⟨(World.cell?_of_block hbk).trans (D50.out j h).1, (World.cell?_of_block hbk).trans (D50.out j h).2⟩)
        have HMSM := Kp.mk (show ∀ f ∈ L, f.1.size ≤ 1000000 ∧ f.2.size ≤ maxLen from fun f hf => by
          have h9 := HLZ.out f hf
          exact ⟨Nat.le_trans h9.1 (by omega), Nat.le_trans h9.2 (by unfold maxLen; omega)⟩)
        have HML := Kp.mk (show L.length ≤ 100 from HLL.out)
        have HEND1 := Kp.mk (show fOut (G.take (k + 1)) = acc0 ++ L.map nmT by rw [HEND0.out, HO2.out])
        clear hbk hb2 c1 cg1
        have HEND := Kp.mk (show acc0 ++ (L.take L.length).map nmT = fOut (G.take (k + 1)) by rw [HEND1.out, List.take_length])
        have HM := Kp.mk (show L.length = L.length from rfl)
        have hml : L.length ≤ 100 := HLL.out
        go_upto_region 9 with fail
        go_wp2_with fail
        go_loopw [3, 34] (fun ov i wr => ∃ j : Nat, j ≤ L.length ∧ i = .int .i64 j ∧ FJ w1.heap.size b5 w2 (acc0 ++ (L.take j).map nmT) ov wr) (fun _ i _ => L.length - (intOf i).toNat)
        case atStart => exact ⟨0, Nat.zero_le _, rfl, by simpa using HJ0.out⟩
        case round =>
          obtain ⟨j, hj, rfl, hJ⟩ := hrel
          have HJ := Kp.mk hJ
          clear hJ
          by_cases hjm : j < L.length
          · have hjl : j < L.length := by have := HM.out; omega
            obtain ⟨d1, d2⟩ := D5.out j hjl
            have c1 := (World.cell?_of_block HJ.out.k).trans d1
            have c2 := (World.cell?_of_block HJ.out.k).trans d2
            have HMS := Kp.mk (HMSM.out _ (List.getElem_mem hjl))
            have HAL := Kp.mk (show (acc0 ++ (L.take j).map nmT) ++ [nmT L[j]] = acc0 ++ (L.take (j + 1)).map nmT by rw [List.take_succ_eq_append_getElem hjl, List.map_append, List.append_assoc]; rfl)
            have hal : (acc0 ++ (L.take j).map nmT).length ≤ 20000 := by
              rw [List.length_append, List.length_map, List.length_take]
              have := HM.out
              have := HML.out
              have := HA0.out
              omega
            obtain ⟨ao, co, rfl⟩ := own_lenH HJ.out.o
            have r1 : (j : Int) < (L.length : Int) := by omega
            have r0 : (0 : Int) ≤ (j : Int) := by omega
            clear d1 d2
            generalize L[j] = f at *
            obtain ⟨x, y⟩ := f
            dsimp only at c1 c2 HMS
            generalize hacc : acc0 ++ (L.take j).map nmT = acc at *
            have HACC := Kp.mk hacc.symm
            have HAL2 := Kp.mk HAL.out
            clear hacc
            have HNA := Kp.mk (fun w => cname_any x w HMS.out.1)
            have HTR := Kp.mk (fun w => oct_trim_any y w HMS.out.2)
            have HJB := Kp.mk (HJ.out.below ((Below.refl wr.heap.size wr).alloc (Nat.le_refl _) (.cells #[.string x, .string y] 64)))
            have HBX := Kp.mk (heap_alloc_new wr (.cells #[.string x, .string y] 64))
            have HBXd := Kp.mk (show ((wr.alloc (.cells #[.string x, .string y] 64)).drew).heap[wr.heap.size]? = some (.cells #[.string x, .string y] 64 (0, 0)) from HBX.out)
            have HNB := Kp.mk (show (Value.slice ao acc.length co).ownBlock ≠ some wr.heap.size from fun e => by have := (HJ.out.o.lt _ e).2; omega)
            have lenC : (acc.length + 1) * 32 ≤ 140737488355328 := by omega
            have lenD : acc.length + 1 ≤ maxLen := by unfold maxLen; omega
            clear hjl
            go_upto_region 12 with fail
            refine wp_region_held_drew (S := fun w' => w'.cell? ⟨wr.heap.size, 0, none⟩ = some (.string x) ∧ w'.cell? ⟨wr.heap.size, 1, none⟩ = some (.string y)) (by kernel_rfl) (cells2 HBXd.out) (fun hHeld => ?_)
            refine wpAnyH_take (i := 0) (oi := ⟨some 38, .move (.tmp 3), _, _, _, none⟩) (v := ?_) rfl (by kernel_rfl) (by kernel_rfl) (by kernel_rfl) (fun _ _ _ h => h) (Or.inl ⟨by rfl, ?_⟩) (by assumption) ?_
            rotate_left
            · intro w hSw
              try dsimp only at hSw
              go_simp
              try with_reducible rfl
            try simp only [Act.put, List.setIfInBounds_toArray, List.set_cons_zero, List.set_cons_succ]
            refine wpAnyH_take (i := 1) (oi := ⟨some 39, .fieldAddr 64 (.tmp 9) 0, _, _, _, none⟩) (v := ?_) rfl (by kernel_rfl) (by kernel_rfl) (by kernel_rfl) (fun _ _ _ h => h) (Or.inl ⟨by rfl, ?_⟩) (by assumption) ?_
            rotate_left
            · intro w hSw
              try dsimp only at hSw
              go_simp
              try with_reducible rfl
            try simp only [Act.put, List.setIfInBounds_toArray, List.set_cons_zero, List.set_cons_succ]
            refine wpAnyH_take (i := 2) (oi := ⟨some 40, .load 9 (.tmp 39), _, _, _, none⟩) (v := ?_) rfl (by kernel_rfl) (by kernel_rfl) (by kernel_rfl) (fun _ _ _ h => h) (Or.inl ⟨by rfl, ?_⟩) (by assumption) ?_
            rotate_left
            · intro w hSw
              try dsimp only at hSw
              go_simp
              try with_reducible rfl
            try simp only [Act.put, List.setIfInBounds_toArray, List.set_cons_zero, List.set_cons_succ]
            refine wpAnyH_take (i := 4) (oi := ⟨some 42, .fieldAddr 64 (.tmp 9) 1, _, _, _, none⟩) (v := ?_) rfl (by kernel_rfl) (by kernel_rfl) (by kernel_rfl) (fun _ _ _ h => h) (Or.inl ⟨by rfl, ?_⟩) (by assumption) ?_
            rotate_left
            · intro w hSw
              try dsimp only at hSw
              go_simp
              try with_reducible rfl
            try simp only [Act.put, List.setIfInBounds_toArray, List.set_cons_zero, List.set_cons_succ]
            refine wpAnyH_take (i := 5) (oi := ⟨some 43, .load 9 (.tmp 42), _, _, _, none⟩) (v := ?_) rfl (by kernel_rfl) (by kernel_rfl) (by kernel_rfl) (fun _ _ _ h => h) (Or.inl ⟨by rfl, ?_⟩) (by assumption) ?_
            rotate_left
            · intro w hSw
              try dsimp only at hSw
              go_simp
              try with_reducible rfl
            try simp only [Act.put, List.setIfInBounds_toArray, List.set_cons_zero, List.set_cons_succ]
            refine wpAnyH_ready (rs := [3]) (by kernel_rfl) (by simp) ?_
            refine AllReadyH.cons (o := ⟨some 41, _, _, _, _, none⟩) rfl (fun K hK => ?_) AllReadyH.nil
            go_simp
            (go_at_call 42; refine (HNA.out _).mono ?_; rintro e wq ⟨rfl, hb⟩)
            have HB5 := Kp.mk ((show Below (wr.alloc (.cells #[.string x, .string y] 64)).heap.size (wr.alloc (.cells #[.string x, .string y] 64)) (wr.alloc (.cells #[.string x, .string y] 64)).drew from ⟨rfl, rfl, rfl, Nat.le_refl _, fun _ _ => rfl⟩).trans hb)
            have HX5 := Kp.mk ((HB5.out.block _ (blk_lt HBX.out)).trans HBX.out)
            clear hb
            try go_wp2_with fail
            refine hK.out _ _ (cells2 HX5.out) (fun hHeld2 => ?_)
            clear hK K
            try simp only [Act.put, List.setIfInBounds_toArray, List.set_cons_zero, List.set_cons_succ]
            refine wpAnyH_ready (rs := [6]) (by kernel_rfl) (by simp) ?_
            refine AllReadyH.cons (o := ⟨some 44, _, _, _, _, none⟩) rfl (fun K hK => ?_) AllReadyH.nil
            go_simp
            (go_at_call 46; refine (HTR.out _).mono ?_; rintro e wq ⟨rfl, hb⟩)
            have HB6 := Kp.mk (HB5.out.trans (hb.mono HB5.out.size))
            have HX2 := Kp.mk ((HB6.out.block _ (blk_lt HBX.out)).trans HBX.out)
            have HJ2 := Kp.mk (HJB.out.below HB6.out)
            have HBZ := Kp.mk (Nat.le_trans HJ2.out.b HJ2.out.bl.size)
            generalize wq = WQ at *
            clear hb
            try go_wp2_with fail
            refine hK.out _ _ (cells2 HX2.out) (fun hHeld2 => ?_)
            clear hK K
            try simp only [Act.put, List.setIfInBounds_toArray, List.set_cons_zero, List.set_cons_succ]
            refine wpAnyH_take (i := 7) (oi := ⟨some 45, .build 64 #[(0, .tmp 41), (1, .tmp 44)], _, _, _, none⟩) (v := ?_) rfl (by kernel_rfl) (by kernel_rfl) (by kernel_rfl) (fun _ _ _ h => h) (Or.inl ⟨by rfl, ?_⟩) (by assumption) ?_
            rotate_left
            · intro w hSw
              try dsimp only at hSw
              go_simp
              try with_reducible rfl
            try simp only [Act.put, List.setIfInBounds_toArray, List.set_cons_zero, List.set_cons_succ]
            refine wpAnyH_ready (rs := [8]) (by kernel_rfl) (by simp) ?_
            refine AllReadyH.cons (o := ⟨some 46, _, _, _, _, none⟩) rfl (fun K hK => ?_) AllReadyH.nil
            go_simp
            refine hK.out _ _ (cells2 (blk_alloc HX2.out)) (fun hHeld2 => ?_)
            clear hK K
            try simp only [Act.put, List.setIfInBounds_toArray, List.set_cons_zero, List.set_cons_succ]
            refine wpAnyH_ready (rs := [9]) (by kernel_rfl) (by simp) ?_
            refine AllReadyH.cons (o := ⟨some 47, _, _, _, _, none⟩) rfl (fun K hK => ?_) AllReadyH.nil
            apply oq_app_any (wr := WQ) (e := 64) (cs := #[.string (nameB x), .string (trimB y)]) (B := w1.heap.size) (v := .slice ao acc.length co) (hown := HJ2.out.o) (H := WQ.heap.size) (hH := rfl) (hlen := lenC) (hm := lenD) (hB := HBZ.out) (hi := Try.infoFH) (ht := Try.underlying22)
            all_goals (try (first | rfl | decide | (intro u hu; simp at hu; rcases hu with rfl | rfl <;> rfl)))
            intro g' cap' w6 h1 h2 h3
            have HJ3 := Kp.mk (HJ2.out.next (f := nmT (x, y)) h1 h2 h3)
            have HS6 := Kp.mk (HJ2.out.box HX2.out HNB.out h2)
            clear h1 h2 h3
            refine hK.out _ _ (HS6.out) (fun hHeld2 => ?_)
            clear hK K
            try simp only [Act.put, List.setIfInBounds_toArray, List.set_cons_zero, List.set_cons_succ]
            refine wpAnyH_take (i := 10) (oi := ⟨some 3, .assign (.tmp 47), _, _, _, none⟩) (v := ?_) rfl (by kernel_rfl) (by kernel_rfl) (by kernel_rfl) (fun _ _ _ h => h) (Or.inl ⟨by rfl, ?_⟩) (by assumption) ?_
            rotate_left
            · intro w hSw
              try dsimp only at hSw
              go_simp
              try with_reducible rfl
            try simp only [Act.put, List.setIfInBounds_toArray, List.set_cons_zero, List.set_cons_succ]
            refine wpAnyH_done (by kernel_rfl) ?_ _
            go_wp2_with fail
            go_roundw
            case rel => exact ⟨j + 1, by omega, by go_num, (by have h9 := HJ3.out; rw [HAL.out] at h9; exact h9)⟩
            case measure => simp [intOf] <;> omega
          · have hjm2 : j = L.length := by omega
            subst hjm2
            have HFJ := Kp.mk HJ.out
            clear HJ
            go_wp2_with fail
            go_roundw
            case rel => exact ⟨k + 1, by omega, by go_num, (by have h9 := HFJ.out.o; rw [HEND.out] at h9; exact h9), HW5.out.trans (HFJ.out.bl)⟩
            case measure => simp [intOf] <;> omega
    · have hkn : k = n := by omega
      subst hkn
      have HTK := Kp.mk (show G.take k = G from List.take_of_length_le (by have := HN.out; omega))
      go_wp2_with fail
      go_ret
      refine ⟨_, rfl, ?_, HB.out.trans (HBW.out.mono HB.out.size)⟩
      have h9 := HO.out
      rw [HTK.out] at h9
      rw [HR.out]
      exact own_upC h9 HB.out.size
end Go.Proofs.Ytocnecbhpofdgaa
