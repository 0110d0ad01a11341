/- Lines of fields (layer 9): the document's Unfold and All. -/
import Derived.Test.YtkfpioadimkogaaDoorFud
import Derived.Test.YtkfpioadimkogaaDoorOpa
namespace Go.Proofs.YtkfpioadimkogaaDoor
open Go.RowKit
set_option linter.unusedVariables false
set_option linter.unusedSimpArgs false

/-- A row of the call's own at a slice that came of a literal without elements. -/
theorem lit0 (W : World) {B : Nat} (hB : B ≤ W.heap.size) : (W.alloc (.cells #[] 9)).ownsRow B 9 1 (.slice (some ⟨W.heap.size, 0, none⟩) 0 0) 0 [] := by
  have := World.ownsRow_lit (base := B) (e := 9) (size := 1) W #[] 0 hB (by unfold maxLen; omega) rfl
  exact this
theorem init_cells {w : World} {B g cap : Nat} {V : List ByteArray} {a : ByteArray} (h : w.ownsRow B 9 1 (.slice (some ⟨g, 0, none⟩) (V.length + 1) cap) (V.length + 1) (svH (V ++ [a]))) :
    ∀ (j : Nat) (hj : j < V.length), w.cell? ⟨g, 0 + j, none⟩ = some (.string V[j]) := fun j hj => by
  have hl : (V ++ [a]).length = V.length + 1 := by simp
  have hr := rds_own (l := V ++ [a]) (by rw [hl]; exact h)
  obtain ⟨b, o, he, hgl, dd⟩ := rds_cells hr (by rw [hl]; omega)
  cases he
  have := dd j (by rw [hl]; omega)
  rwa [List.getElem_append_left hj] at this
theorem cell_alloc {w : World} {p : Addr} {v : Value} (h : w.cell? p = some v) (o : Obj) : (w.alloc o).cell? p = some v := by
  have e := cell_nospot h
  rw [e] at h ⊢
  have hlt := World.block_lt_of_cell? w _ h
  exact (((Below.refl w.heap.size w).alloc (Nat.le_refl _) o).cell (p := ⟨p.block, p.off, none⟩) hlt).trans h
theorem new_cell (w : World) (x : Value) : (w.alloc (.cells #[x] 9)).cell? ⟨w.heap.size, 0 + 0, none⟩ = some x := blk_cell (heap_alloc_new w _) rfl
theorem one_cells {w : World} {g : Nat} {x : ByteArray} (h : w.cell? ⟨g, 0 + 0, none⟩ = some (.string x)) : ∀ (j : Nat) (hj : j < [x].length), w.cell? ⟨g, 0 + j, none⟩ = some (.string [x][j]) := fun j hj => by
  have : j = 0 := by simp at hj; omega
  subst this
  exact h
theorem grown_cell {w w' : World} {g : Nat} {u : Value} {row : Option Nat} (h : w.cell? ⟨g, 0 + 0, none⟩ = some u) (hg : w.grownBy w' row) (hr : row ≠ some g) : w'.cell? ⟨g, 0 + 0, none⟩ = some u := by
  have hlt := World.block_lt_of_cell? w _ h
  rw [World.cell?_of_block (w := w) (hg.block g hlt fun e => hr e.symm)]
  exact h
set_option maxRecDepth 100000 in
set_option maxHeartbeats 8000000 in
theorem runfold_any (fold : Int) (v : Value) (L : List ByteArray) (w : World) (hv : RdS w v L) (hl : L.length ≤ 1000) (hz : ∀ s ∈ L, s.size ≤ 100000) :
    Calls Tryd.prog 28 #[.int .i64 fold, v] w (RetU fold L w) := by
  have HV := Kp.mk hv
  have HZ := Kp.mk hz
  have HO0 := Kp.mk (lit0 w (Nat.le_refl _))
  have HB0 := Kp.mk ((Below.refl w.heap.size w).alloc (Nat.le_refl _) (.cells #[] 9))
  obtain ⟨av, cv, rfl, -, -, -⟩ := hv
  clear hz
  go_enter Tryd.func28, Tryd.ntmps28
  go_wp2_with fail
  go_loopw [6, 7] (fun ov i wr => ∃ (k : Nat) (W : List ByteArray), k ≤ L.length ∧ i = .int .i64 k ∧ ufAt fold L k = some W ∧ (k = 0 ↔ W = []) ∧ wr.ownsRow w.heap.size 9 1 ov W.length (svH W) ∧ Below w.heap.size w wr) (fun _ i _ => L.length - (intOf i).toNat)
  case atStart => exact ⟨0, [], by omega, rfl, rfl, by simp, HO0.out, HB0.out⟩
  case round =>
    obtain ⟨k, W, hk, rfl, hu, hkw, hown, hb⟩ := hrel
    obtain ⟨aw, cw, rfl⟩ := own_lenH hown
    have HOW := Kp.mk hown
    have HB := Kp.mk hb
    have HAT := Kp.mk hu
    have HKW := Kp.mk hkw
    have hWl := ufAt_len hu
    have hsz := hb.size
    have hWz := Kp.mk (fun x (hx : x ∈ W) => show x.size ≤ 900000000 by
      have h1 := ufAt_sm HZ.out hu x hx
      have h2 : k * (100000 + 1) ≤ 1000 * (100000 + 1) := Nat.mul_le_mul_right _ (by omega)
      omega)
    clear hu hown hb hkw
    by_cases hlt : k < L.length
    · obtain ⟨g, o, rfl, hgl, dd⟩ := rds_cells (HV.out.below HB.out) (by omega)
      have c1 := dd k hlt
      have m1 := HZ.out L[k] (List.getElem_mem hlt)
      have q0 : (0 : Int) ≤ (k : Int) := by omega
      have q1 : (k : Int) < (L.length : Int) := by omega
      have HST := Kp.mk (ufAt_step (fold := fold) hlt)
      rw [HAT.out] at HST
      clear dd
      generalize L[k] = s at *
      have GO := Kp.mk (fun w => rgoes_any s w (by omega))
      cases hg : goesB s
      · rw [hg] at GO
        have HN := Kp.mk (HST.out.trans (ufS_new hg))
        clear hg
        have hlen : (W.length + 1) * 16 ≤ 140737488355328 := by omega
        have hmx : W.length + 1 ≤ maxLen := by unfold maxLen; omega
        go_wp2_with fail
        refine (GO.out _).mono ?_
        rintro e w2 ⟨rfl, rfl⟩
        go_wp2_with (at_builtin; refine app_any rfl _ _ _ _ rfl Tryd.underlying33 _ _ _ Tryd.infoSH rfl (by omega) w.heap.size _ _ _ rfl HOW.out #[.string s] rfl (fun u hu => by simp at hu; subst hu; rfl) _ rfl rfl hlen hmx hsz ?_; intro g' cap' w' h1 h2 h3; have G1 := Kp.mk h1; have G2 := Kp.mk (grown_bel HOW.out hsz h2); clear h1 h2 h3)
        go_roundw
        case rel =>
          refine ⟨k + 1, W ++ [s], by omega, by go_num, HN.out, by simp, ?_, HB.out.trans G2.out⟩
          rw [List.length_append, svH_snoc]
          exact G1.out
        case measure => simp [intOf]; omega
      · rw [hg] at GO
        by_cases hf0 : fold = 0 ∨ k = 0
        · obtain ⟨u1, u2⟩ := uf_bad (HST.out.trans (ufS_zero hg (hf0.imp id fun h => HKW.out.1 h)))
          have U1 := Kp.mk u1
          have U2 := Kp.mk u2
          clear hg u1 u2
          rcases hf0 with rfl | hk0
          · go_wp2_with fail
            refine (GO.out _).mono ?_
            rintro e w2 ⟨rfl, rfl⟩
            go_wp2_with fail
            go_ret2
            exact ⟨.slice none 0 0, by rw [U2.out] <;> rfl, by rw [U1.out]; exact World.ownsRow_nil _ _ _ _, HB.out⟩
          · have q9 : ((k : Int) == 0) = true := by rw [beq_iff_eq]; omega
            clear hk0
            cases hq : (fold == 0)
            all_goals
              go_wp2_with fail
              refine (GO.out _).mono ?_
              rintro e w2 ⟨rfl, rfl⟩
              go_wp2_with fail
              go_ret2
              exact ⟨.slice none 0 0, by rw [U2.out] <;> rfl, by rw [U1.out]; exact World.ownsRow_nil _ _ _ _, HB.out⟩
        · have hf1 : fold ≠ 0 := fun e => hf0 (.inl e)
          have hk0 : k ≠ 0 := fun e => hf0 (.inr e)
          rcases List.eq_nil_or_concat W with e | ⟨V, a, e⟩
          · exact absurd (HKW.out.2 e) hk0
          · rw [List.concat_eq_append] at e
            have HN := Kp.mk (show ufAt fold L (k + 1) = some (V ++ [joinT a s]) by rw [HST.out, e]; exact ufS_join hg hf1)
            have haz := hWz.out a (by rw [e]; simp)
            have hVl : W.length = V.length + 1 := by rw [e, List.length_append]; rfl
            have OW := Kp.mk HOW.out
            rw [hVl, e] at OW
            obtain ⟨gw, rfl⟩ : ∃ gw, aw = some ⟨gw, 0, none⟩ := by
              rcases OW.out.2 with ⟨_, h9⟩ | ⟨g', cap', cur, hv, _⟩
              · omega
              · cases hv; exact ⟨_, rfl⟩
            have hgB := OW.out.lt gw rfl
            have HIC := Kp.mk (init_cells OW.out)
            have d5 : wr.cell? ⟨gw, V.length, none⟩ = some (.string a) := by
              have hl9 : (V ++ [a]).length = V.length + 1 := by simp
              have hr := rds_own (l := V ++ [a]) (by rw [hl9]; exact OW.out)
              obtain ⟨b, o9, he, _, d9⟩ := rds_cells hr (by rw [hl9]; omega)
              cases he
              have := d9 V.length (by rw [hl9]; omega)
              simpa using this
            have hVb : V.length + 1 ≤ 1000 := by omega
            rw [← hVl] at OW
            generalize W.length = n at *
            have hcw : n ≤ cw ∧ cw ≤ maxLen := by
              rcases OW.out.2 with ⟨_, h9⟩ | ⟨g', cap', cur, hv, _, _, h8, h7, _⟩
              · omega
              · cases hv; exact ⟨h8, h7⟩
            unfold maxLen at hcw
            have hcw1 : (V.length : Int) ≤ (cw : Int) := by omega
            have hcw3 : (cw == 0) = false := by rw [beq_eq_false_iff_ne]; omega
            have hcw4 : ¬ cw = 0 := by omega
            have p0 : ¬ (n : Int) = 0 := by omega
            have pw : IntKind.i64.wrap ((n : Int) - 1) = (V.length : Int) := by rw [wrap_small _ (by omega) (by omega)]; omega
            have p1 : (0 : Int) ≤ (V.length : Int) := by omega
            have p2 : (V.length : Int) < (n : Int) := by omega
            have q2 : (fold == 0) = false := beq_eq_false_iff_ne.2 hf1
            have q3 : ((k : Int) == 0) = false := by rw [beq_eq_false_iff_ne]; omega
            clear hg hf0 e HOW HAT HST HKW hWz hWl hVl
            go_wp2_with fail
            refine (GO.out _).mono ?_
            rintro e w2 ⟨rfl, rfl⟩
            go_upto_region 10 with fail
            have hgw : gw < wr.heap.size := hgB.2
            have hgl2 : g < wr.heap.size := hgl
            have ST := Kp.mk (fun {X : World} (hb : Below wr.heap.size wr X) => show (X.cell? ⟨gw, V.length, none⟩ = some (.string a) ∧ X.cell? ⟨g, o + k, none⟩ = some (.string s)) from ⟨(hb.cell (p := ⟨gw, V.length, none⟩) hgw).trans d5, (hb.cell (p := ⟨g, o + k, none⟩) hgl2).trans c1⟩)
            have ICT := Kp.mk (fun {X : World} (hb : Below wr.heap.size wr X) => show ∀ (j : Nat) (hj : j < V.length), X.cell? ⟨gw, 0 + j, none⟩ = some (.string V[j]) from fun j hj => (hb.cell (p := ⟨gw, _, none⟩) hgw).trans (HIC.out j hj))
            have HD := Kp.mk (show Below wr.heap.size wr wr.drew from (Below.refl _ _).drew)
            have sA : (endB a).size ≤ 900000000 := by have := endB_le a; omega
            have sB : (trimB s).size ≤ 100000 := by have := trimB_size s; omega
            have k1 : ¬ 9223372036854775807 < (endB a).size + 1 := by omega
            have k2 : ¬ 9223372036854775807 < (endB a).size + 1 + (trimB s).size := by omega
            have lenA : (0 + V.length) * 16 ≤ 140737488355328 := by omega
            have lenB : 0 + V.length ≤ maxLen := by unfold maxLen; omega
            have lenC : (V.length + 1) * 16 ≤ 140737488355328 := by omega
            have lenD : V.length + 1 ≤ maxLen := by unfold maxLen; omega
            have REN := Kp.mk (fun w => rend_any a w (by omega))
            have RTR := Kp.mk (fun w => ref_trim_any s w (by unfold maxLen; omega))
            have HJT := Kp.mk (show joinT a s = endB a ++ ⟨#[32]⟩ ++ trimB s from rfl)
            have HOL := Kp.mk (lit0 wr.drew (B := wr.heap.size) (Nat.le_refl _))
            have HDA := Kp.mk (HD.out.alloc HD.out.size (.cells #[] 9))
            have hszA : wr.heap.size ≤ (wr.drew.alloc (.cells #[] 9)).heap.size := HDA.out.size
            refine wp_region_held_drew (S := fun w' => w'.cell? ⟨gw, V.length, none⟩ = some (.string a) ∧ w'.cell? ⟨g, o + k, none⟩ = some (.string s)) (by kernel_rfl) (ST.out HD.out) (fun hHeld => ?_)
            refine wpAnyH_take (i := 1) (oi := ⟨some 39, .move (.tmp 6), _, _, _, none⟩) (v := ?_) rfl (by kernel_rfl) (by kernel_rfl) (by kernel_rfl) (fun _ _ _ h => h) (Or.inl ⟨by rfl, ?_⟩) (by assumption) ?_
            rotate_left
            · intro w hSw
              try dsimp only at hSw
              go_simp
              try with_reducible rfl
            try simp only [Act.put, List.setIfInBounds_toArray, List.set_cons_zero, List.set_cons_succ]
            refine wpAnyH_take (i := 2) (oi := ⟨some 40, .move (.tmp 8), _, _, _, none⟩) (v := ?_) rfl (by kernel_rfl) (by kernel_rfl) (by kernel_rfl) (fun _ _ _ h => h) (Or.inl ⟨by rfl, ?_⟩) (by assumption) ?_
            rotate_left
            · intro w hSw
              try dsimp only at hSw
              go_simp
              try with_reducible rfl
            try simp only [Act.put, List.setIfInBounds_toArray, List.set_cons_zero, List.set_cons_succ]
            refine wpAnyH_take (i := 3) (oi := ⟨some 41, .slice 33 (.tmp 39) none (some (.tmp 40)) none, _, _, _, none⟩) (v := ?_) rfl (by kernel_rfl) (by kernel_rfl) (by kernel_rfl) (fun _ _ _ h => h) (Or.inl ⟨by rfl, ?_⟩) (by assumption) ?_
            rotate_left
            · intro w hSw
              try dsimp only at hSw
              go_simp
              try with_reducible rfl
            try simp only [Act.put, List.setIfInBounds_toArray, List.set_cons_zero, List.set_cons_succ]
            refine wpAnyH_take (i := 5) (oi := ⟨some 43, .move (.tmp 6), _, _, _, none⟩) (v := ?_) rfl (by kernel_rfl) (by kernel_rfl) (by kernel_rfl) (fun _ _ _ h => h) (Or.inl ⟨by rfl, ?_⟩) (by assumption) ?_
            rotate_left
            · intro w hSw
              try dsimp only at hSw
              go_simp
              try with_reducible rfl
            try simp only [Act.put, List.setIfInBounds_toArray, List.set_cons_zero, List.set_cons_succ]
            refine wpAnyH_take (i := 6) (oi := ⟨some 44, .move (.tmp 8), _, _, _, none⟩) (v := ?_) rfl (by kernel_rfl) (by kernel_rfl) (by kernel_rfl) (fun _ _ _ h => h) (Or.inl ⟨by rfl, ?_⟩) (by assumption) ?_
            rotate_left
            · intro w hSw
              try dsimp only at hSw
              go_simp
              try with_reducible rfl
            try simp only [Act.put, List.setIfInBounds_toArray, List.set_cons_zero, List.set_cons_succ]
            refine wpAnyH_take (i := 7) (oi := ⟨some 45, .indexAddr 33 (.tmp 43) (.tmp 44), _, _, _, none⟩) (v := ?_) rfl (by kernel_rfl) (by kernel_rfl) (by kernel_rfl) (fun _ _ _ h => h) (Or.inl ⟨by rfl, ?_⟩) (by assumption) ?_
            rotate_left
            · intro w hSw
              try dsimp only at hSw
              go_simp
              try with_reducible rfl
            try simp only [Act.put, List.setIfInBounds_toArray, List.set_cons_zero, List.set_cons_succ]
            refine wpAnyH_take (i := 11) (oi := ⟨some 49, .move (.tmp 1), _, _, _, none⟩) (v := ?_) rfl (by kernel_rfl) (by kernel_rfl) (by kernel_rfl) (fun _ _ _ h => h) (Or.inl ⟨by rfl, ?_⟩) (by assumption) ?_
            rotate_left
            · intro w hSw
              try dsimp only at hSw
              go_simp
              try with_reducible rfl
            try simp only [Act.put, List.setIfInBounds_toArray, List.set_cons_zero, List.set_cons_succ]
            refine wpAnyH_take (i := 12) (oi := ⟨some 50, .move (.tmp 7), _, _, _, none⟩) (v := ?_) rfl (by kernel_rfl) (by kernel_rfl) (by kernel_rfl) (fun _ _ _ h => h) (Or.inl ⟨by rfl, ?_⟩) (by assumption) ?_
            rotate_left
            · intro w hSw
              try dsimp only at hSw
              go_simp
              try with_reducible rfl
            try simp only [Act.put, List.setIfInBounds_toArray, List.set_cons_zero, List.set_cons_succ]
            refine wpAnyH_take (i := 13) (oi := ⟨some 51, .indexAddr 33 (.tmp 49) (.tmp 50), _, _, _, none⟩) (v := ?_) rfl (by kernel_rfl) (by kernel_rfl) (by kernel_rfl) (fun _ _ _ h => h) (Or.inl ⟨by rfl, ?_⟩) (by assumption) ?_
            rotate_left
            · intro w hSw
              try dsimp only at hSw
              go_simp
              try with_reducible rfl
            try simp only [Act.put, List.setIfInBounds_toArray, List.set_cons_zero, List.set_cons_succ]
            refine wpAnyH_take (i := 8) (oi := ⟨some 46, .load 9 (.tmp 45), _, _, _, none⟩) (v := ?_) rfl (by kernel_rfl) (by kernel_rfl) (by kernel_rfl) (fun _ _ _ h => h) (Or.inl ⟨by rfl, ?_⟩) (by assumption) ?_
            rotate_left
            · intro w hSw
              try dsimp only at hSw
              go_simp
              try with_reducible rfl
            try simp only [Act.put, List.setIfInBounds_toArray, List.set_cons_zero, List.set_cons_succ]
            refine wpAnyH_take (i := 14) (oi := ⟨some 52, .load 9 (.tmp 51), _, _, _, none⟩) (v := ?_) rfl (by kernel_rfl) (by kernel_rfl) (by kernel_rfl) (fun _ _ _ h => h) (Or.inl ⟨by rfl, ?_⟩) (by assumption) ?_
            rotate_left
            · intro w hSw
              try dsimp only at hSw
              go_simp
              try with_reducible rfl
            try simp only [Act.put, List.setIfInBounds_toArray, List.set_cons_zero, List.set_cons_succ]
            refine wpAnyH_ready (rs := [0]) (by kernel_rfl) (by simp) ?_
            refine AllReadyH.cons (o := ⟨some 38, _, _, _, _, none⟩) rfl (fun K hK => ?_) AllReadyH.nil
            go_simp
            refine hK.out _ _ (ST.out (HD.out.alloc HD.out.size _)) (fun hHeld2 => ?_)
            clear hK K
            try simp only [Act.put, List.setIfInBounds_toArray, List.set_cons_zero, List.set_cons_succ]
            refine wpAnyH_ready (rs := [4]) (by kernel_rfl) (by simp) ?_
            refine AllReadyH.cons (o := ⟨some 42, _, _, _, _, none⟩) rfl (fun K hK => ?_) AllReadyH.nil
            refine op_app_strs rfl _ _ _ _ rfl Tryd.underlying33 _ Tryd.infoSH rfl wr.heap.size (.slice (some ⟨wr.heap.size, 0, none⟩) 0 0) 0 _ rfl HOL.out gw 0 cw V rfl (ICT.out HDA.out) lenA lenB hszA ?_
            intro a1 c1' w1 h1 h2
            rw [Nat.zero_add] at h1 ⊢
            replace HD := Kp.mk (HDA.out.grown h2 (by have := HDA.out.size; omega) (fun k hk => by simp [Value.ownBlock] at hk; exact Nat.le_of_eq hk))
            have HO1 := Kp.mk h1
            have hsz1 : wr.heap.size ≤ w1.heap.size := HD.out.size
            clear h1 h2
            refine hK.out _ _ (ST.out HD.out) (fun hHeld2 => ?_)
            clear hK K
            try simp only [Act.put, List.setIfInBounds_toArray, List.set_cons_zero, List.set_cons_succ]
            refine wpAnyH_ready (rs := [9]) (by kernel_rfl) (by simp) ?_
            refine AllReadyH.cons (o := ⟨some 47, _, _, _, _, none⟩) rfl (fun K hK => ?_) AllReadyH.nil
            go_simp
            (go_at_call 72; refine (REN.out _).mono ?_; rintro e wn ⟨rfl, rfl⟩)
            try go_wp2_with fail
            refine hK.out _ _ (ST.out HD.out) (fun hHeld2 => ?_)
            clear hK K
            try simp only [Act.put, List.setIfInBounds_toArray, List.set_cons_zero, List.set_cons_succ]
            refine wpAnyH_take (i := 10) (oi := ⟨some 48, .binOp .add 9 (.tmp 47) (.const (.string ⟨#[32]⟩)) 9, _, _, _, none⟩) (v := ?_) rfl (by kernel_rfl) (by kernel_rfl) (by kernel_rfl) (fun _ _ _ h => h) (Or.inl ⟨by rfl, ?_⟩) (by assumption) ?_
            rotate_left
            · intro w hSw
              try dsimp only at hSw
              go_simp
              try with_reducible rfl
            try simp only [Act.put, List.setIfInBounds_toArray, List.set_cons_zero, List.set_cons_succ]
            refine wpAnyH_ready (rs := [15]) (by kernel_rfl) (by simp) ?_
            refine AllReadyH.cons (o := ⟨some 53, _, _, _, _, none⟩) rfl (fun K hK => ?_) AllReadyH.nil
            go_simp
            (go_at_call 49; refine (RTR.out _).mono ?_; rintro e wn ⟨rfl, rfl⟩)
            try go_wp2_with fail
            refine hK.out _ _ (ST.out HD.out) (fun hHeld2 => ?_)
            clear hK K
            try simp only [Act.put, List.setIfInBounds_toArray, List.set_cons_zero, List.set_cons_succ]
            refine wpAnyH_take (i := 16) (oi := ⟨some 54, .binOp .add 9 (.tmp 48) (.tmp 53) 9, _, _, _, none⟩) (v := ?_) rfl (by kernel_rfl) (by kernel_rfl) (by kernel_rfl) (fun _ _ _ h => h) (Or.inl ⟨by rfl, ?_⟩) (by assumption) ?_
            rotate_left
            · intro w hSw
              try dsimp only at hSw
              go_simp
              try with_reducible rfl
            try simp only [Act.put, List.setIfInBounds_toArray, List.set_cons_zero, List.set_cons_succ]
            refine wpAnyH_ready (rs := [17]) (by kernel_rfl) (by simp) ?_
            refine AllReadyH.cons (o := ⟨some 55, _, _, _, _, none⟩) rfl (fun K hK => ?_) AllReadyH.nil
            go_simp
            refine hK.out _ _ (ST.out (HD.out.alloc HD.out.size _)) (fun hHeld2 => ?_)
            clear hK K
            try simp only [Act.put, List.setIfInBounds_toArray, List.set_cons_zero, List.set_cons_succ]
            refine wpAnyH_ready (rs := [18]) (by kernel_rfl) (by simp) ?_
            refine AllReadyH.cons (o := ⟨some 56, _, _, _, _, none⟩) rfl (fun K hK => ?_) AllReadyH.nil
            apply op_app_any (wr := w1) (e := 9) (cs := #[.string (endB a ++ ⟨#[32]⟩ ++ trimB s)]) (B := wr.heap.size) (v := .slice a1 V.length c1') (hown := HO1.out) (H := w1.heap.size) (hH := rfl) (hlen := lenC) (hm := lenD) (hB := hsz1) (hi := Tryd.infoSH) (ht := Tryd.underlying33)
            all_goals (try (first | rfl | decide | (intro u hu; simp at hu; subst hu; rfl)))
            intro g' cap' w' h1 h2 h3
            have G1 := Kp.mk h1
            have G2 := Kp.mk (grown_bel HO1.out hsz1 h2)
            clear h1 h2 h3
            refine hK.out _ _ (ST.out (HD.out.trans G2.out)) (fun hHeld2 => ?_)
            clear hK K
            try simp only [Act.put, List.setIfInBounds_toArray, List.set_cons_zero, List.set_cons_succ]
            refine wpAnyH_take (i := 19) (oi := ⟨some 6, .assign (.tmp 56), _, _, _, none⟩) (v := ?_) rfl (by kernel_rfl) (by kernel_rfl) (by kernel_rfl) (fun _ _ _ h => h) (Or.inl ⟨by rfl, ?_⟩) (by assumption) ?_
            rotate_left
            · intro w hSw
              try dsimp only at hSw
              go_simp
              try with_reducible rfl
            try simp only [Act.put, List.setIfInBounds_toArray, List.set_cons_zero, List.set_cons_succ]
            refine wpAnyH_done (by kernel_rfl) ?_ _
            go_wp2_with fail
            go_roundw
            case rel =>
              refine ⟨k + 1, V ++ [joinT a s], by omega, by go_num, HN.out, by simp, ?_, HB.out.trans ((HD.out.trans G2.out).mono hsz)⟩
              rw [List.length_append, svH_snoc, HJT.out]
              exact own_lowF G1.out hsz
            case measure => simp [intOf]; omega
    · obtain rfl : k = L.length := by omega
      obtain ⟨u1, u2⟩ := uf_good HAT.out
      have U1 := Kp.mk u1
      have U2 := Kp.mk u2
      clear u1 u2
      go_wp2_with fail
      go_ret2
      exact ⟨.slice aw W.length cw, by rw [U2.out] <;> rfl, by rw [U1.out]; exact HOW.out, HB.out⟩
end Go.Proofs.YtkfpioadimkogaaDoor
